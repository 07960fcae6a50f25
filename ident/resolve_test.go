package ident

import (
	"math"
	"testing"

	"replica/api"
)

// kinds: all there are, and numbers that are none.
var kinds = []int{0, 1, 2, 3, 4, 5, 6, 7, -1, 8, 1<<32 + 5, math.MinInt, math.MaxInt}

// P608: the document's examples.
func TestSettleExamples(t *testing.T) {
	for _, x := range []struct {
		kind, rule, own, peer int
		want                  api.Verdict
		err                   api.Errno
	}{
		{api.NoSync, 6, api.Inconsistent, api.UpToDate, api.Verdict{Kind: api.TargetBits, Rule: 20}, api.OK},
		{api.TargetFull, 2, api.Inconsistent, api.UpToDate, api.Verdict{Kind: api.TargetFull, Rule: 2}, api.OK},
		{api.SourceFull, 11, api.Inconsistent, api.Outdated, api.Verdict{Kind: api.TargetFull, Rule: 20}, api.OK},
		{api.SplitBits, 12, api.UpToDate, api.Inconsistent, api.Verdict{Kind: api.SourceBits, Rule: 20}, api.OK},
		{api.SourceBits, 9, api.Inconsistent, api.Inconsistent, api.Verdict{}, api.ErrDisk},
		{api.NoSync, 6, api.UpToDate, api.Outdated, api.Verdict{Kind: api.SourceBits, Rule: 20}, api.OK},
		{api.SourceBits, 9, api.Outdated, api.UpToDate, api.Verdict{Kind: api.SourceBits, Rule: 9}, api.OK},
		{api.NoSync, 6, api.UpToDate, api.NoDisk, api.Verdict{}, api.ErrPolicy},
		{8, 0, api.NoDisk, 0, api.Verdict{}, api.ErrArg},
		{api.Unrelated, 14, api.Inconsistent, api.Inconsistent, api.Verdict{Kind: api.Unrelated, Rule: 14}, api.OK},
		{api.Unrelated, 14, api.Inconsistent, api.UpToDate, api.Verdict{Kind: api.Unrelated, Rule: 14}, api.OK},
		{api.NoSync, 1, api.Inconsistent, api.Inconsistent, api.Verdict{Kind: api.NoSync, Rule: 1}, api.OK},
		{api.SplitFull, 13, api.Inconsistent, api.Inconsistent, api.Verdict{Kind: api.SplitFull, Rule: 13}, api.OK},
		{api.SplitFull, 13, api.Inconsistent, api.Outdated, api.Verdict{Kind: api.TargetFull, Rule: 20}, api.OK},
		{api.SplitFull, 13, api.Outdated, api.UpToDate, api.Verdict{Kind: api.SplitFull, Rule: 13}, api.OK},
		{api.NoSync, 6, api.Outdated, api.UpToDate, api.Verdict{Kind: api.TargetBits, Rule: 20}, api.OK},
		{api.NoSync, 6, api.Outdated, api.Outdated, api.Verdict{Kind: api.NoSync, Rule: 6}, api.OK},
		{api.Unrelated, 14, api.NoDisk, api.UpToDate, api.Verdict{}, api.ErrPolicy},
	} {
		got, e := Settle(api.Verdict{Kind: x.kind, Rule: x.rule}, x.own, x.peer)
		if got != x.want || e != x.err {
			t.Errorf("Settle({%d, %d}, %d, %d): %v, %d, want %v, %d", x.kind, x.rule, x.own, x.peer, got, e, x.want, x.err)
		}
	}
}

// settled goes through the document's list; the disks are written as the letters I, O and U.
func settled(v api.Verdict, own int, peer int) (api.Verdict, api.Errno) {
	if v.Kind < 0 || v.Kind > 7 {
		return api.Verdict{}, api.ErrArg
	}
	if own < 0 || own > 2 || peer < 0 || peer > 2 {
		return api.Verdict{}, api.ErrPolicy
	}
	bits, full := map[string]int{"target": 2, "source": 1}, map[string]int{"target": 4, "source": 3}
	we := ""
	switch "IOU"[own:own+1] + "IOU"[peer:peer+1] {
	case "II":
		switch v.Kind {
		case 1, 2, 3, 4:
			return api.Verdict{}, api.ErrDisk
		}
		return v, api.OK
	case "IO", "IU":
		we = "target"
	case "OI", "UI":
		we = "source"
	case "OU":
		if v.Kind == 0 {
			return api.Verdict{Kind: 2, Rule: 20}, api.OK
		}
	case "UO":
		if v.Kind == 0 {
			return api.Verdict{Kind: 1, Rule: 20}, api.OK
		}
	}
	if we == "" || v.Kind == 7 {
		return v, api.OK
	}
	to := bits[we]
	switch v.Kind {
	case 3, 4, 6:
		to = full[we]
	}
	if to == v.Kind {
		return v, api.OK
	}
	return api.Verdict{Kind: to, Rule: 20}, api.OK
}

// P608 and P610: every kind and every pair of states, and numbers that are none.
func TestSettleAll(t *testing.T) {
	states := []int{0, 1, 2, 3, -1, 1 << 32, 1<<32 + 1, math.MinInt, math.MaxInt}
	for _, kind := range kinds {
		for _, rule := range []int{0, 6, 20, math.MinInt} {
			for _, own := range states {
				for _, peer := range states {
					v := api.Verdict{Kind: kind, Rule: rule}
					got, e := Settle(v, own, peer)
					if want, err := settled(v, own, peer); got != want || e != err {
						t.Fatalf("Settle(%v, %d, %d): %v, %d, want %v, %d", v, own, peer, got, e, want, err)
					}
					other, f := Settle(Mirror(v), peer, own)
					if other != Mirror(got) || f != e {
						t.Fatalf("Settle(%v, %d, %d): %v, %d; at the other side %v, %d", v, own, peer, got, e, other, f)
					}
				}
			}
		}
	}
}

// brains: a split brain told by nodes, not by who looks.
type brains struct {
	sb0, sb1, sb2       int
	role, marked        [2]int
	flags               [2]uint32
	kind, rule, onlooks int
}

func (b brains) resolve() (api.Verdict, api.Errno) {
	own := b.onlooks & 1
	peer := 1 - own
	return Resolve(api.Verdict{Kind: b.kind, Rule: b.rule}, b.onlooks, b.sb0, b.sb1, b.sb2,
		b.role[own], b.role[peer], b.marked[own], b.marked[peer], b.flags[own], b.flags[peer])
}

// P609: the document's examples, and the sides that they leave out.
func TestResolveExamples(t *testing.T) {
	d := api.FlagDiscard
	two := [2]int{api.Secondary, api.Secondary}
	first := [2]int{api.Primary, api.Secondary}
	second := [2]int{api.Secondary, api.Primary}
	both := [2]int{api.Primary, api.Primary}
	for _, x := range []struct {
		sb0, sb1     int
		role, marked [2]int
		flags        [2]uint32
		loser, rule  int // loser -1: none
	}{
		{api.SbLeast, 0, two, [2]int{3, 5}, [2]uint32{}, 0, 22},
		{api.SbLeast, 0, two, [2]int{5, 3}, [2]uint32{}, 1, 22},
		{api.SbLeast, 0, two, [2]int{5, 5}, [2]uint32{}, 1, 22},
		{api.SbLeast, 0, two, [2]int{0, 0}, [2]uint32{}, 1, 22},
		{api.SbZero, 0, two, [2]int{3, 5}, [2]uint32{}, -1, 0},
		{api.SbZero, 0, two, [2]int{0, 5}, [2]uint32{}, 0, 22},
		{api.SbZero, 0, two, [2]int{5, 0}, [2]uint32{}, 1, 22},
		{api.SbZero, 0, two, [2]int{0, 0}, [2]uint32{}, -1, 0},
		{api.SbDisconnect, 0, two, [2]int{0, 5}, [2]uint32{}, -1, 0},
		{api.SbDisconnect, 0, two, [2]int{3, 5}, [2]uint32{0, d}, 1, 21},
		{api.SbDisconnect, 0, two, [2]int{3, 5}, [2]uint32{d, 0}, 0, 21},
		{api.SbDisconnect, 0, two, [2]int{3, 5}, [2]uint32{d, d}, -1, 0},
		{api.SbLeast, 0, two, [2]int{3, 5}, [2]uint32{d, d}, 0, 22},
		{api.SbLeast, 0, two, [2]int{3, 5}, [2]uint32{0, d}, 1, 21},
		{api.SbDisconnect, 0, two, [2]int{3, 5}, [2]uint32{0, ^d}, -1, 0},
		{api.SbNode0, 0, two, [2]int{3, 5}, [2]uint32{}, 0, 22},
		{api.SbNode1, 0, two, [2]int{3, 5}, [2]uint32{}, 1, 22},
		{api.SbLeast, api.SbConsensus, first, [2]int{3, 5}, [2]uint32{}, -1, 0},
		{api.SbLeast, api.SbConsensus, first, [2]int{9, 5}, [2]uint32{}, 1, 22},
		{api.SbLeast, api.SbConsensus, second, [2]int{3, 5}, [2]uint32{}, 0, 22},
		{api.SbLeast, api.SbConsensus, second, [2]int{5, 5}, [2]uint32{}, -1, 0},
		{api.SbDisconnect, api.SbConsensus, first, [2]int{9, 5}, [2]uint32{}, -1, 0},
		{api.SbLeast, api.SbSecondary, first, [2]int{3, 5}, [2]uint32{}, 1, 22},
		{api.SbDisconnect, api.SbSecondary, second, [2]int{3, 5}, [2]uint32{}, 0, 22},
		{api.SbNode1, api.SbDisconnect, first, [2]int{3, 5}, [2]uint32{}, -1, 0},
		{api.SbDisconnect, api.SbDisconnect, first, [2]int{3, 5}, [2]uint32{d, 0}, -1, 0},
		{api.SbDisconnect, api.SbSecondary, first, [2]int{3, 5}, [2]uint32{d, 0}, 1, 22},
		{api.SbDisconnect, api.SbDisconnect, first, [2]int{3, 5}, [2]uint32{0, d}, 1, 21},
		{api.SbNode0, api.SbSecondary, both, [2]int{3, 5}, [2]uint32{0, d}, -1, 0},
	} {
		for _, kind := range []int{api.SplitBits, api.SplitFull} {
			for node := range 2 {
				b := brains{x.sb0, x.sb1, 0, x.role, x.marked, x.flags, kind, 12, node}
				want := api.Verdict{Kind: kind, Rule: 12}
				if x.loser >= 0 {
					want = seen(node, 1-x.loser, kind == api.SplitFull, x.rule)
				}
				if got, e := b.resolve(); got != want || e != api.OK {
					t.Errorf("Resolve of %+v: %v, %d, want %v", b, got, e, want)
				}
			}
		}
	}
}

// loser goes through the document's list for nodes 0 and 1, as an onlooker who is neither; -1: none gives up.
func (b brains) loser() (int, int) {
	var drops ask
	for i, f := range b.flags {
		drops[i] = f&api.FlagDiscard != 0
	}
	if drops.one() && b.role[drops.which()] == api.Secondary {
		return drops.which(), 21
	}
	none := -1
	zero := ask{b.marked[0] == 0, b.marked[1] == 0}
	switch {
	case b.sb0 == api.SbZero && zero.one():
		none = zero.which()
	case b.sb0 == api.SbLeast && b.marked[0] < b.marked[1], b.sb0 == api.SbNode0:
		none = 0
	case b.sb0 == api.SbLeast, b.sb0 == api.SbNode1:
		none = 1
	}
	up := ask{b.role[0] == api.Primary, b.role[1] == api.Primary}
	switch {
	case up.both():
		return -1, 0
	case !up.one():
		return none, 22
	}
	secondary := 1 - up.which()
	if b.sb1 == api.SbSecondary || b.sb1 == api.SbConsensus && none == secondary {
		return secondary, 22
	}
	return -1, 0
}

// want tells the document's answer.
func (b brains) want() (api.Verdict, api.Errno) {
	if b.kind < 0 || b.kind > 7 || b.onlooks != 0 && b.onlooks != 1 || b.marked[0] < 0 || b.marked[1] < 0 {
		return api.Verdict{}, api.ErrArg
	}
	ok0, ok1 := false, false
	for _, p := range []int{api.SbDisconnect, api.SbZero, api.SbLeast, api.SbNode0, api.SbNode1} {
		ok0 = ok0 || b.sb0 == p
	}
	for _, p := range []int{api.SbDisconnect, api.SbSecondary, api.SbConsensus} {
		ok1 = ok1 || b.sb1 == p
	}
	if !ok0 || !ok1 || b.sb2 != api.SbDisconnect {
		return api.Verdict{}, api.ErrPolicy
	}
	for _, r := range b.role {
		if r != api.Secondary && r != api.Primary {
			return api.Verdict{}, api.ErrPolicy
		}
	}
	v := api.Verdict{Kind: b.kind, Rule: b.rule}
	if b.kind != api.SplitBits && b.kind != api.SplitFull {
		return v, api.OK
	}
	if loser, rule := b.loser(); loser >= 0 {
		return seen(b.onlooks, 1-loser, b.kind == api.SplitFull, rule), api.OK
	}
	return v, api.OK
}

// check holds both nodes' answers against the document's, and against each other (P610); a primary never gives up.
func (b brains) check(t *testing.T) {
	t.Helper()
	b.onlooks = 0
	got, e := b.resolve()
	if want, err := b.want(); got != want || e != err {
		t.Fatalf("Resolve of %+v: %v, %d, want %v, %d", b, got, e, want, err)
	}
	if b.role[0] == api.Primary && got.Rule != b.rule && e == api.OK && (got.Kind == api.TargetBits || got.Kind == api.TargetFull) {
		t.Fatalf("Resolve of %+v: the primary gives up", b)
	}
	other := b
	other.onlooks = 1
	other.kind = Mirror(api.Verdict{Kind: b.kind}).Kind
	w, f := other.resolve()
	if want, err := other.want(); w != want || f != err {
		t.Fatalf("Resolve of %+v: %v, %d, want %v, %d", other, w, f, want, err)
	}
	if w != Mirror(got) || f != e {
		t.Fatalf("Resolve of %+v: %v, %d at node 0, %v, %d at node 1", b, got, e, w, f)
	}
}

// P609 and P610: every kind, policy, role and flag, with numbers of marked blocks that differ in each way.
func TestResolveAll(t *testing.T) {
	counts := [][2]int{{0, 0}, {0, 1}, {1, 0}, {2, 3}, {3, 2}, {3, 3}, {math.MaxInt, 1 << 32}, {-1, 3}, {3, -1}, {math.MinInt, 0}}
	flags := [...]uint32{0, api.FlagDiscard, ^api.FlagDiscard}
	for _, kind := range kinds {
		for sb0 := -1; sb0 <= 7; sb0++ {
			for sb1 := -1; sb1 <= 7; sb1++ {
				for roles := range 9 {
					for _, marked := range counts {
						for f := range 9 {
							b := brains{sb0: sb0, sb1: sb1, role: [2]int{roles % 3, roles / 3}, marked: marked, kind: kind, rule: 12}
							b.flags = [2]uint32{flags[f%3], flags[f/3]}
							b.check(t)
						}
					}
				}
			}
		}
	}
}

// P609: each wrong argument alone, and beside another, whatever the kind.
func TestResolveRefuses(t *testing.T) {
	wrong := []int{-1, 7, 1 << 32, math.MinInt, math.MaxInt}
	for kind := range 8 {
		for _, x := range wrong {
			for _, b := range []brains{
				{kind: x | 8}, {sb0: x}, {sb1: x}, {sb2: x}, {role: [2]int{x, 0}}, {role: [2]int{0, x}}, {marked: [2]int{-5, 0}}, {marked: [2]int{0, -5}},
				{sb0: x, marked: [2]int{0, -1}}, {sb1: x, marked: [2]int{-1, 0}}, {sb2: x, kind: -1}, {role: [2]int{x, x}, kind: 8},
				{sb2: api.SbZero}, {sb2: api.SbConsensus}, {sb1: api.SbZero}, {sb0: api.SbSecondary}, {sb0: api.SbConsensus},
			} {
				if b.kind == 0 {
					b.kind = kind
				}
				b.check(t)
				if _, e := b.resolve(); e == api.OK {
					t.Fatalf("Resolve of %+v is not refused", b)
				}
			}
			b := brains{kind: kind, sb0: 9, onlooks: 2}
			if got, e := b.resolve(); got != (api.Verdict{}) || e != api.ErrArg {
				t.Fatalf("Resolve at node 2: %v, %d", got, e)
			}
			b = brains{kind: kind, onlooks: x}
			if got, e := b.resolve(); got != (api.Verdict{}) || e != api.ErrArg {
				t.Fatalf("Resolve at node %d: %v, %d", x, got, e)
			}
		}
	}
}
