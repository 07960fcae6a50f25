package inspect

import (
	"bytes"
	"fmt"
	"maps"
	"slices"
	"testing"

	"replica/api"
	"replica/disk"
)

// meet lets two nodes meet on copies of two disks, for P1812's rounds.
func meet(t testing.TB, a, b *disk.Disk, c api.Config) *couple {
	t.Helper()
	p := newCouple(t, c, twinOf(a), twinOf(b))
	for i := range 2 {
		if e := p.connect(i, false); e != api.OK {
			t.Fatalf("P1703: Connect of node %d: %v", i, e)
		}
	}
	p.rounds(calmRounds(c))
	return p
}

// foretold: P2005: what comes on copies of two disks is what Forecast told. It answers that, and what was met, in a word.
func foretold(t testing.TB, what string, a, b *disk.Disk, c api.Config) (api.Forecast, string) {
	t.Helper()
	f, e := Forecast(a, b, c)
	if e != api.OK {
		t.Fatalf("P2003: %s: Forecast: %v", what, e)
	}
	p := meet(t, a, b, c)
	if wrong := compare(p, f, dataOf(a, c), dataOf(b, c)); wrong != "" {
		for i := range 2 {
			t.Logf("node %d: %+v why %v, states %b, progress %+v", i, p.n[i].Status(), p.n[i].Why(), p.seen[i], p.n[i].Progress())
			m, _ := Look([]*disk.Disk{a, b}[i], c)
			t.Logf("disk %d: %+v", i, m)
		}
		t.Fatalf("P2005: %s: %+v: %s", what, f, wrong)
	}
	return f, kindOf(f, dataOf(a, c), dataOf(b, c))
}

// kindOf: what a forecast is of.
func kindOf(f api.Forecast, a, b [][]byte) string {
	switch {
	case f.Err != api.OK:
		return "refused"
	case f.Verdict.Kind == api.NoSync:
		return "nothing to do"
	case stuck(f, a, b):
		return "stuck"
	case len(f.Ship) > 0:
		return "shipped"
	}
	return "the same"
}

// sourceOf tells which node's data are the source's.
func sourceOf(v api.Verdict) int {
	if v.Kind == api.TargetBits || v.Kind == api.TargetFull {
		return 1
	}
	return 0
}

// stuck tells whether the source cannot read a block that is looked at.
func stuck(f api.Forecast, a, b [][]byte) bool {
	source := [2][][]byte{a, b}[sourceOf(f.Verdict)]
	return slices.ContainsFunc(f.Marked, func(block int) bool { return source[block] == nil })
}

// compare tells what has not come as it was told; data are those ahead of the meeting.
func compare(p *couple, f api.Forecast, a, b [][]byte) string {
	data := [2][][]byte{a, b}
	if f.Err != api.OK {
		return compareRefused(p, f, data)
	}
	for i := range 2 {
		if p.seen[i]&joined == 0 {
			return fmt.Sprint("node ", i, " was not joined")
		}
		if p.n[i].Why() != api.OK {
			return fmt.Sprint("node ", i, " tells ", p.n[i].Why())
		}
	}
	source, sync := sourceOf(f.Verdict), f.Verdict.Kind != api.NoSync
	for i := range 2 {
		was, is := p.seen[i]&(1<<api.SyncSource) != 0, p.seen[i]&(1<<api.SyncTarget) != 0
		if was != (sync && i == source) || is != (sync && i != source) {
			return fmt.Sprint("the states of node ", i, " have been ", fmt.Sprintf("%b", p.seen[i]))
		}
	}
	if stuck(f, a, b) {
		return ""
	}
	if wrong := compareEnd(p, f, sync); wrong != "" {
		return wrong
	}
	want := [2][][]byte{slices.Clone(a), slices.Clone(b)}
	for _, block := range f.Ship {
		want[1-source][block] = data[source][block]
	}
	for i := range 2 {
		if !slices.EqualFunc(dataOf(p.d[i], p.c), want[i], bytes.Equal) {
			return fmt.Sprint("the data of node ", i)
		}
	}
	return compareAfter(p, f)
}

func compareRefused(p *couple, f api.Forecast, data [2][][]byte) string {
	for i := range 2 {
		if p.seen[i]&joined != 0 {
			return fmt.Sprint("node ", i, " was joined")
		}
		if !slices.EqualFunc(dataOf(p.d[i], p.c), data[i], bytes.Equal) {
			return fmt.Sprint("the data of node ", i)
		}
	}
	if p.n[0].Why() != f.Err && p.n[1].Why() != f.Err {
		return fmt.Sprint("the nodes tell ", p.n[0].Why(), " and ", p.n[1].Why())
	}
	return ""
}

// compareEnd: both are connected, the marks are gone, just the foretold blocks were shipped.
func compareEnd(p *couple, f api.Forecast, sync bool) string {
	for i := range 2 {
		s, shipped := p.n[i].Status(), p.n[i].Progress().Shipped
		m, e := Look(p.d[i], p.c)
		switch {
		case s.Conn != api.Connected:
			return fmt.Sprint("node ", i, " is not connected")
		case sync && (s.OutOfSync > 0 || e != api.OK || countSet(m.Bits) > 0):
			return fmt.Sprint("node ", i, " has marked blocks")
		case shipped != len(f.Ship):
			return fmt.Sprint("node ", i, " tells ", shipped, " as shipped")
		}
	}
	if sent := slices.Sorted(maps.Keys(p.sent)); !slices.Equal(sent, f.Ship) {
		return fmt.Sprint("the blocks that were shipped are ", sent)
	}
	return ""
}

// compareAfter: what Forecast tells of the disks behind the meeting.
func compareAfter(p *couple, f api.Forecast) string {
	again, e := Forecast(p.d[0], p.d[1], p.c)
	if e != api.OK || again.Err != api.OK || len(again.Marked)+len(again.Ship) > 0 || !slices.Equal(again.Hidden, f.Hidden) {
		return fmt.Sprintf("then it is told: %+v, %v", again, e)
	}
	good := p.n[0].Status().Disk == api.UpToDate && p.n[1].Status().Disk == api.UpToDate
	if good && again.Verdict.Kind != api.NoSync {
		return fmt.Sprintf("then it is told: %+v", again)
	}
	return ""
}

// P2005: every rule, from both ends, whatever the blocks are like.
func TestForetoldVerdicts(t *testing.T) {
	for k, x := range verdictCases() {
		c := with(func(c *api.Config) { c.Sb0 = x.sb0 })
		for turn := range 4 {
			a, b := formatted(t, c, x.a.gens, x.a.flags, x.a.marks...), formatted(t, c, x.b.gens, x.b.flags, x.b.marks...)
			roll := dice(100*k + turn)
			for range 5 * turn {
				d := []*disk.Disk{a, b}[roll.below(2)]
				if block := roll.below(8); roll.below(6) == 0 {
					d.Spoil(block)
				} else {
					d.Through(block, fill(c, roll.below(3)))
				}
			}
			foretold(t, x.what, a, b, c)
			foretold(t, x.what+", the other way about", b, a, c)
		}
	}
}

// P2005: disks on which stores of every kind lie, or what is left of them.
func TestForetoldRolled(t *testing.T) {
	met := map[string]int{}
	for k := range *storyCount * 12 {
		seed := *storySeed + k
		c := rolledResource(seed)
		if c.Blocks > 100 && seed%3 > 0 {
			continue
		}
		a, b := rolledDisk(2*seed, c), rolledDisk(2*seed+1, c)
		if _, e := Forecast(a, b, c); e != api.OK {
			continue
		}
		_, kind := foretold(t, fmt.Sprint("seed ", seed), a, b, c)
		met[kind]++
	}
	for _, kind := range []string{"refused", "nothing to do", "shipped", "the same", "stuck"} {
		if met[kind] < 5 {
			t.Errorf("%d times %q: %v", met[kind], kind, met)
		}
	}
}
