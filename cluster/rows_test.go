package cluster

import (
	"bytes"
	"fmt"
	"slices"
	"strings"
	"testing"

	"replica/api"
)

// randomLine: an event of the table, with whatever stands in it.
func randomLine(d *dice, form string, blocks int) string {
	w := strings.Fields(form)
	for k := range w {
		switch w[k] {
		case "NODE":
			w[k] = "ab"[d.below(2):][:1]
		case "NUMBER":
			w[k] = fmt.Sprint(d.below(blocks))
			if d.below(6) == 0 {
				w[k] = fmt.Sprint(d.one(0, blocks, blocks+3, 100, 1000, 999999999))
			}
		case "FILL":
			w[k] = strings.Repeat(fmt.Sprintf("%02x", d.below(256)), d.one(1, 1, 2, 4))
			if d.below(3) == 0 {
				w[k] = fmt.Sprintf("%0*x", d.one(2, 4, 8, 16, 32), d.below(256))
			}
		case "PICKS":
			w[k] = d.picks()
		}
	}
	if w[0] == "run" {
		w[1] = fmt.Sprint(d.one(0, 1, 2, 5, 30))
	}
	if len(w) == 5 {
		w[4] = fmt.Sprint(d.one(0, 1, 127, 128, 128, 128, 129, 4096))
	}
	return strings.Join(w, strings.Repeat(" ", d.one(1, 1, 1, 2)))
}

// rowOf plays random lines at a cluster and at its model, and holds the two against each other.
func rowOf(t *testing.T, seed int, seen map[string]int) {
	t.Helper()
	d := dice(seed)
	d.below(2)
	resource := resourceOf(randomConfig(&d, true))
	c, p := newCluster(t, resource), newPlain(resource)
	if d.below(2) == 0 {
		for _, line := range []string{"promote a", "connect a", "connect b", "run 30"} {
			play(t, c, line)
			p.do(line)
		}
	}
	var lines []string
	for range 150 {
		form := forms[d.below(len(forms))]
		switch d.below(8) {
		case 0, 1, 2:
			form = []string{"run NUMBER", "up NODE", "connect NODE", "promote NODE"}[d.below(4)]
		case 3, 4:
			form = []string{"write NODE NUMBER FILL", "read NODE NUMBER", "flush NODE", "zero NODE NUMBER"}[d.below(4)]
		}
		if d.below(2) == 0 && (form == "wipe NODE" || form == "spoil NODE NUMBER" || form == "invalidate NODE") {
			continue
		}
		line := randomLine(&d, form, c.config.Blocks)
		lines = append(lines, line)
		got, e := c.Do(line)
		want, we := p.do(line)
		if e != we || !slices.Equal(got, want) {
			t.Fatalf("%q: %q, %d, want %q, %d", lines, got, e, want, we)
		}
		for _, one := range got {
			seen[kindOf(one)]++
		}
		hold(t, lines, c, p)
	}
}

// kindOf: a told line without its numbers.
func kindOf(line string) string {
	w := strings.Fields(line)
	for k := range w {
		if w[k][0] >= '0' && w[k][0] <= '9' || len(w[k]) == 64 {
			w[k] = "N"
		}
	}
	return strings.Join(w[1:min(len(w), 3)], " ")
}

func hold(t *testing.T, lines []string, c *Cluster, p *plain) {
	t.Helper()
	for i := range 2 {
		data, e := c.Durable(i)
		if e != api.OK || !bytes.Equal(data, p.durable(i)) {
			t.Fatalf("P1803: %q: Durable(%d) is another, %d", lines, i, e)
		}
		covered, e := c.Covered(i)
		if e != api.OK || !slices.Equal(covered, p.covered(i)) {
			t.Fatalf("P1805: %q: Covered(%d) = %v, %d, want %v", lines, i, covered, e, p.covered(i))
		}
		s, e := c.Status(i)
		want, we := api.Status{}, api.ErrOff
		if p.node[i] != nil {
			want, we = p.node[i].Status(), api.OK
		}
		if s != want || e != we {
			t.Fatalf("P1804: %q: Status(%d) = %+v, %d, want %+v, %d", lines, i, s, e, want, we)
		}
		queue := p.queue[i]
		if !slices.EqualFunc(c.sides[i].queue, queue, func(a []byte, b string) bool { return string(a) == b }) {
			t.Fatalf("A frame's way: %q: towards %d wait %d frames, want %d", lines, i, len(c.sides[i].queue), len(queue))
		}
	}
}

// TestRows: all events, in whatever order, against the chapter's words.
func TestRows(t *testing.T) {
	seen := map[string]int{}
	for seed := range 400 {
		rowOf(t, 7000+seed, seen)
	}
	for _, what := range []string{
		"lost power", "down", "N ok", "N read", "N error", "up refused", "crash refused", "wipe refused", "scribble refused", "spoil refused", "fuse refused",
		"connect refused", "disconnect refused", "promote refused", "demote refused", "verify refused", "invalidate refused",
		"read refused", "write refused", "zero refused", "flush refused",
		"status cs:Connected", "status cs:SyncTarget", "progress mode", "gens N", "why N", "covered", "covered N",
	} {
		if seen[what] == 0 {
			t.Errorf("the rows have not told %q", what)
		}
	}
	if testing.Verbose() {
		t.Log(seen)
	}
}

// TestWords: lines that are nearly events, against the table.
func TestWords(t *testing.T) {
	c := newCluster(t, small)
	d := dice(5)
	taken, refused := 0, 0
	all := []string{"status a", "status b", "gens a", "gens b", "why a", "why b", "covered a", "covered b", "net", "data a", "data b"}
	before := play(t, c, all...)
	for range 60000 {
		line := []byte(randomLine(&d, forms[d.below(len(forms))], 8))
		for range d.below(3) {
			at := d.below(len(line))
			switch d.below(5) {
			case 0:
				line[at] = " 0159afgAF-+#_\t\n\x00\xff"[d.below(18)]
			case 1:
				line = slices.Delete(line, at, at+1)
			case 2:
				line = slices.Insert(line, at, " 0f-"[d.below(4)])
			case 3:
				line = append(line, " a"[d.below(2)])
			case 4:
				line = append(line, []string{" 0", " 00", " discard", " force", " -", " a"}[d.below(6)]...)
			}
			if len(line) == 0 {
				line = []byte(" ")
			}
		}
		want := isEvent(string(line))
		if _, e := readEvent(string(line)); e != want {
			t.Fatalf("P1802: %q: %d, want %d", line, e, want)
		}
		if want == api.OK {
			taken++
		} else {
			refused++
			if got, e := c.Do(string(line)); e != want || len(got) > 0 {
				t.Fatalf("P1802: Do(%q) = %q, %d, want %d", line, got, e, want)
			}
		}
	}
	if after := play(t, c, all...); !slices.Equal(before, after) {
		t.Errorf("P1802: lines that are no events have made %q of %q", after, before)
	}
	if taken < 10000 || refused < 10000 {
		t.Errorf("%d lines are events, %d are none", taken, refused)
	}
}
