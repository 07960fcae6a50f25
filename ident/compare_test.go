package ident

import (
	"math"
	"testing"

	"replica/api"
)

// ask says how many sides a rule's condition holds for, and which: as the document's rows say "just one", "one side", "each side".
type ask [2]bool

func (a ask) both() bool { return a[0] && a[1] }

func (a ask) one() bool { return a[0] != a[1] }

func (a ask) which() int {
	if a[0] {
		return 0
	}
	return 1
}

func pairs(x uint64, y uint64) bool { return x == y && x != 0 && x != 4 }

func anyPairs(xs []uint64, ys []uint64) bool {
	for _, x := range xs {
		for _, y := range ys {
			if pairs(x, y) {
				return true
			}
		}
	}
	return false
}

// seen tells the verdict that names a source and a rule, as the node sees it.
func seen(node int, source int, full bool, by int) api.Verdict {
	kind := api.TargetBits
	if node == source {
		kind = api.SourceBits
	}
	if full {
		kind += api.SourceFull - api.SourceBits
	}
	return api.Verdict{Kind: kind, Rule: by}
}

// table goes through the document's rows for nodes 0 and 1, as an onlooker who is neither.
func table(node int, g [2]api.Gens, crashed ask) api.Verdict {
	var fresh, counts, from, inPast ask
	var older [2][]uint64
	for i, x := range g {
		o := g[1-i]
		fresh[i] = x.Current == 0 || x.Current == 4
		counts[i] = x.Bitmap != 0
		from[i] = pairs(x.Bitmap, o.Current)
		inPast[i] = pairs(x.Current, o.Old1) || pairs(x.Current, o.Old2)
		older[i] = []uint64{x.Bitmap, x.Old1, x.Old2}
	}
	same := pairs(g[0].Current, g[1].Current)
	switch {
	case fresh.both():
		return api.Verdict{Kind: api.NoSync, Rule: 1}
	case fresh.one():
		return seen(node, 1-fresh.which(), true, 2)
	case same && crashed.one():
		return seen(node, crashed.which(), false, 3)
	case same && crashed.both():
		return seen(node, 0, false, 4)
	case same && counts.one():
		return seen(node, counts.which(), false, 5)
	case same && !counts.both():
		return api.Verdict{Kind: api.NoSync, Rule: 6}
	case same:
		return seen(node, 0, false, 7)
	case from.both():
		return api.Verdict{Kind: api.SplitBits, Rule: 8}
	case from.one():
		return seen(node, from.which(), false, 9)
	case inPast.both():
		return api.Verdict{Kind: api.SplitFull, Rule: 10}
	case inPast.one():
		return seen(node, 1-inPast.which(), true, 11)
	case pairs(g[0].Bitmap, g[1].Bitmap):
		return api.Verdict{Kind: api.SplitBits, Rule: 12}
	case anyPairs(older[0], older[1]):
		return api.Verdict{Kind: api.SplitFull, Rule: 13}
	}
	return api.Verdict{Kind: api.Unrelated, Rule: 14}
}

// P606: the document's examples, at both nodes; and one for each rule that they leave out.
func TestCompareExamples(t *testing.T) {
	c := api.FlagCrashed
	for _, x := range []struct {
		first, second           api.Gens
		firstFlags, secondFlags uint32
		atFirst, atSecond, rule int
	}{
		{gens(20, 10, 8, 0), gens(10, 0, 8, 0), 0, 0, api.SourceBits, api.TargetBits, 9},
		{gens(20, 0, 10, 8), gens(20, 0, 10, 8), 0, 0, api.NoSync, api.NoSync, 6},
		{gens(20, 0, 10, 8), gens(10, 0, 8, 0), 0, 0, api.SourceFull, api.TargetFull, 11},
		{gens(20, 10, 8, 0), gens(20, 0, 10, 8), 0, 0, api.SourceBits, api.TargetBits, 5},
		{gens(20, 10, 8, 0), gens(22, 10, 8, 0), 0, 0, api.SplitBits, api.SplitBits, 12},
		{gens(20, 10, 8, 0), gens(26, 24, 22, 10), 0, 0, api.SplitFull, api.SplitFull, 13},
		{gens(10, 0, 8, 6), gens(30, 20, 10, 8), 0, 0, api.TargetFull, api.SourceFull, 11},
		{gens(4, 0, 0, 0), gens(10, 0, 0, 0), 0, 0, api.TargetFull, api.SourceFull, 2},
		{gens(10, 0, 0, 0), gens(12, 0, 0, 0), 0, 0, api.Unrelated, api.Unrelated, 14},
		{gens(10, 4, 0, 0), gens(12, 4, 0, 0), 0, 0, api.Unrelated, api.Unrelated, 14},
		{gens(10, 0, 0, 0), gens(10, 0, 0, 0), c, 0, api.SourceBits, api.TargetBits, 3},
		{gens(10, 0, 0, 0), gens(10, 0, 0, 0), 0, c, api.TargetBits, api.SourceBits, 3},
		{gens(10, 0, 0, 0), gens(10, 0, 0, 0), c, c, api.SourceBits, api.TargetBits, 4},
		{gens(20, 50, 0, 0), gens(50, 0, 0, 0), 0, 0, api.SourceBits, api.TargetBits, 9},
		{gens(0, 0, 0, 0), gens(4, 0, 0, 0), c, 0, api.NoSync, api.NoSync, 1},
		{gens(20, 10, 8, 0), gens(0, 20, 20, 20), 0, c, api.SourceFull, api.TargetFull, 2},
		{gens(10, 4, 0, 0), gens(10, 0, 0, 0), 0, 0, api.SourceBits, api.TargetBits, 5},
		{gens(10, 4, 0, 0), gens(10, 9, 0, 0), 0, 0, api.SourceBits, api.TargetBits, 7},
		{gens(10, 12, 0, 0), gens(12, 10, 0, 0), 0, 0, api.SplitBits, api.SplitBits, 8},
		{gens(10, 0, 12, 0), gens(12, 0, 0, 10), 0, 0, api.SplitFull, api.SplitFull, 10},
		{gens(10, 0, 0, 0), gens(12, 0, 0, 10), c, c, api.TargetFull, api.SourceFull, 11},
	} {
		for _, node := range []int{0, 1, 2, -1, math.MinInt, math.MaxInt, 1 << 32} {
			own, peer, ownFlags, peerFlags, kind := x.first, x.second, x.firstFlags, x.secondFlags, x.atFirst
			if node != 0 {
				own, peer, ownFlags, peerFlags, kind = x.second, x.first, x.secondFlags, x.firstFlags, x.atSecond
			}
			want := api.Verdict{Kind: kind, Rule: x.rule}
			if got := Compare(node, own, ownFlags, peer, peerFlags); got != want {
				t.Errorf("Compare(%d, %v, %d, %v, %d): %v, want %v", node, own, ownFlags, peer, peerFlags, got, want)
			}
		}
	}
}

// P606 and P607: every pair of Gens made of 0, 4 and three identifiers, with every state of the flag, at both nodes; each rule is met.
func TestCompareAll(t *testing.T) {
	values := [...]uint64{0, 4, 1, 5, 1<<63 + 4}
	n := len(values)
	all := 1
	for range 8 {
		all *= n
	}
	met := [15]int{}
	for code := range all {
		var w [8]uint64
		for i, rest := 0, code; i < len(w); i, rest = i+1, rest/n {
			w[i] = values[rest%n]
		}
		g := [2]api.Gens{gens(w[0], w[1], w[2], w[3]), gens(w[4], w[5], w[6], w[7])}
		for bits := range 4 {
			crashed := ask{bits&1 != 0, bits&2 != 0}
			met[checkPair(t, g, crashed)]++
		}
	}
	for rule := 1; rule <= 14; rule++ {
		if met[rule] == 0 {
			t.Errorf("rule %d was never met", rule)
		}
	}
}

// checkPair holds what both nodes find against the table, and tells the rule.
func checkPair(t *testing.T, g [2]api.Gens, crashed ask) int {
	t.Helper()
	var flags [2]uint32
	for i := range flags {
		if crashed[i] {
			flags[i] = api.FlagCrashed
		}
	}
	v := Compare(0, g[0], flags[0], g[1], flags[1])
	w := Compare(1, g[1], flags[1], g[0], flags[0])
	if want := table(0, g, crashed); v != want {
		t.Fatalf("Compare at node 0 of %v, %v: %v, want %v", g, crashed, v, want)
	}
	if want := table(1, g, crashed); w != want {
		t.Fatalf("Compare at node 1 of %v, %v: %v, want %v", g, crashed, w, want)
	}
	if w != Mirror(v) || v != Mirror(w) {
		t.Fatalf("Compare of %v, %v: %v at node 0, %v at node 1", g, crashed, v, w)
	}
	return v.Rule
}

// P606: of the flags just one counts, and of an identifier all bits do.
func TestCompareAtRandom(t *testing.T) {
	d := dice(8)
	for range 200000 {
		g := [2]api.Gens{d.gens(), d.gens()}
		rule := checkPair(t, g, ask{})
		others := func() uint32 { return uint32(d.roll(1<<31)) << 1 &^ api.FlagCrashed }
		if v := Compare(0, g[0], others(), g[1], others()); v.Rule != rule {
			t.Fatalf("Compare of %v: rule %d without flags, %d with others than FlagCrashed", g, rule, v.Rule)
		}
		checkPair(t, g, ask{true, false})
	}
}

// P607: kinds that are none stay, and so does any rule.
func TestMirror(t *testing.T) {
	for _, x := range [][2]int{
		{api.NoSync, api.NoSync}, {api.SourceBits, api.TargetBits}, {api.TargetBits, api.SourceBits},
		{api.SourceFull, api.TargetFull}, {api.TargetFull, api.SourceFull},
		{api.SplitBits, api.SplitBits}, {api.SplitFull, api.SplitFull}, {api.Unrelated, api.Unrelated},
		{-1, -1}, {8, 8}, {1<<32 + 1, 1<<32 + 1}, {math.MaxInt, math.MaxInt}, {math.MinInt, math.MinInt},
	} {
		for _, rule := range []int{0, 9, 20, -7, math.MaxInt, math.MinInt} {
			want := api.Verdict{Kind: x[1], Rule: rule}
			if got := Mirror(api.Verdict{Kind: x[0], Rule: rule}); got != want {
				t.Errorf("Mirror of {%d, %d}: %v", x[0], rule, got)
			}
		}
	}
}
