package ident

import (
	"math"
	"testing"

	"replica/api"
)

func gens(current, bitmap, old1, old2 uint64) api.Gens {
	return api.Gens{Current: current, Bitmap: bitmap, Old1: old1, Old2: old2}
}

func wantGens(t *testing.T, what string, got api.Gens, want api.Gens) {
	t.Helper()
	if got != want {
		t.Fatalf("%s: %v, want %v", what, got, want)
	}
}

// dice answers the same row of numbers in every run.
type dice uint64

func (d *dice) roll(n int) int {
	*d = *d*6364136223846793005 + 1442695040888963407
	return int(uint64(*d) >> 33 % uint64(n))
}

// word answers small identifiers mostly, so that they meet; now and then one with all its bits in use.
func (d *dice) word() uint64 {
	if d.roll(8) == 0 {
		return uint64(d.roll(1<<31))<<33 ^ uint64(d.roll(1<<31))<<2 ^ uint64(d.roll(4))
	}
	return uint64(d.roll(9))
}

func (d *dice) gens() api.Gens { return gens(d.word(), d.word(), d.word(), d.word()) }

// P601: the document's numbers, nodes beyond 0 and 1, numbers that wrap round.
func TestFresh(t *testing.T) {
	for _, x := range []struct {
		node   int
		number uint64
		want   uint64
	}{
		{0, 0, 8}, {1, 0, 24}, {0, 3, 104}, {1, 3, 120}, {0, 4, 136}, {1, 1 << 59, 24}, {0, 1 << 59, 8},
		{2, 3, 104}, {3, 3, 120}, {-1, 3, 120}, {-2, 3, 104}, {-3, 3, 120},
		{math.MaxInt, 1, 56}, {math.MinInt, 1, 40}, {1 << 32, 1, 40}, {1<<32 + 1, 1, 56},
		{0, 1<<59 - 1, 1<<64 - 24}, {1, 1<<59 - 1, 1<<64 - 8}, {0, math.MaxUint64, 1<<64 - 24}, {1, math.MaxUint64, 1<<64 - 8},
	} {
		if got := Fresh(x.node, x.number); got != x.want {
			t.Errorf("Fresh(%d, %d): %d, want %d", x.node, x.number, got, x.want)
		}
	}
}

// P601: no answer stands for none, and none comes twice.
func TestFreshIsNew(t *testing.T) {
	seen := map[uint64]bool{}
	for _, from := range []uint64{0, 1 << 20, 1 << 31, 1 << 32, 1<<59 - 1000} {
		for number := from; number < from+1000; number++ {
			for node := range 2 {
				x := Fresh(node, number)
				if x == 0 || x == api.JustCreated || seen[x] {
					t.Fatalf("Fresh(%d, %d) is %d", node, number, x)
				}
				seen[x] = true
			}
		}
	}
}

// P602: the document's examples, and what is laid into the past.
func TestRotate(t *testing.T) {
	for _, x := range []struct {
		g     api.Gens
		fresh uint64
		want  api.Gens
	}{
		{gens(10, 0, 8, 6), 20, gens(20, 10, 8, 6)},
		{gens(20, 10, 8, 6), 30, gens(30, 10, 20, 8)},
		{gens(4, 0, 0, 0), 20, gens(20, 4, 0, 0)},
		{gens(0, 0, 8, 6), 20, gens(20, 0, 8, 6)},
		{gens(0, 10, 8, 6), 20, gens(20, 10, 8, 6)},
		{gens(4, 10, 8, 6), 20, gens(20, 10, 8, 6)},
		{gens(8, 10, 8, 6), 20, gens(20, 10, 8, 6)},
		{gens(6, 10, 8, 6), 20, gens(20, 10, 6, 8)},
		{gens(10, 10, 8, 6), 20, gens(20, 10, 10, 8)},
		{gens(10, 4, 8, 6), 20, gens(20, 4, 10, 8)},
		{gens(10, 9, 8, 6), 0, gens(0, 9, 10, 8)},
		{gens(10, 0, 8, 6), 4, gens(4, 10, 8, 6)},
		{gens(10, 0, 8, 6), 10, gens(10, 10, 8, 6)},
		{gens(math.MaxUint64, 1<<32, 1<<32+1, 1), 1 << 63, gens(1<<63, 1<<32, math.MaxUint64, 1<<32+1)},
	} {
		wantGens(t, "Rotate", Rotate(x.g, x.fresh), x.want)
	}
}

// P603: a bitmap that counts from nothing, from data never synchronised, from an identifier; each with a node that is new and one that is not.
func TestBeginSource(t *testing.T) {
	for _, x := range []struct {
		g     api.Gens
		fresh uint64
		want  api.Gens
	}{
		{gens(20, 10, 8, 0), 99, gens(20, 10, 8, 0)},
		{gens(20, 4, 0, 0), 50, gens(20, 50, 0, 0)},
		{gens(20, 0, 10, 8), 50, gens(50, 20, 10, 8)},
		{gens(4, 0, 0, 0), 50, gens(4, 50, 0, 0)},
		{gens(0, 0, 3, 2), 50, gens(0, 50, 3, 2)},
		{gens(4, 4, 3, 2), 50, gens(4, 50, 3, 2)},
		{gens(0, 4, 3, 2), 50, gens(0, 50, 3, 2)},
		{gens(0, 10, 3, 2), 50, gens(0, 10, 3, 2)},
		{gens(4, 10, 3, 2), 50, gens(4, 10, 3, 2)},
		{gens(20, 4, 8, 6), 0, gens(20, 0, 8, 6)},
		{gens(20, 0, 8, 6), 0, gens(0, 20, 8, 6)},
		{gens(1, 0, 8, 6), 4, gens(4, 1, 8, 6)},
	} {
		wantGens(t, "BeginSource", BeginSource(x.g, x.fresh), x.want)
	}
}

// P604: a source without a Bitmap, one whose Bitmap the target has, one that pushes the target's Current into the past.
func TestBeginTarget(t *testing.T) {
	for _, x := range []struct{ g, source, want api.Gens }{
		{gens(10, 0, 8, 0), gens(20, 10, 8, 0), gens(10, 0, 8, 0)},
		{gens(10, 5, 8, 0), gens(20, 10, 7, 3), gens(10, 0, 8, 0)},
		{gens(4, 0, 0, 0), gens(20, 50, 0, 0), gens(50, 0, 0, 0)},
		{gens(20, 0, 10, 8), gens(50, 20, 10, 8), gens(20, 0, 10, 8)},
		{gens(12, 3, 8, 6), gens(50, 20, 10, 8), gens(20, 0, 12, 8)},
		{gens(12, 3, 8, 6), gens(50, 0, 10, 8), gens(12, 3, 8, 6)},
		{gens(12, 3, 12, 6), gens(50, 20, 10, 8), gens(20, 0, 12, 6)},
		{gens(12, 3, 8, 12), gens(50, 20, 10, 8), gens(20, 0, 12, 8)},
		{gens(0, 3, 8, 6), gens(50, 20, 10, 8), gens(20, 0, 8, 6)},
		{gens(4, 3, 8, 6), gens(50, 4, 10, 8), gens(4, 0, 8, 6)},
		{gens(12, 3, 8, 6), gens(50, 4, 10, 8), gens(4, 0, 12, 8)},
		{gens(12, 3, 8, 6), gens(0, 20, 0, 0), gens(20, 0, 12, 8)},
	} {
		wantGens(t, "BeginTarget", BeginTarget(x.g, x.source), x.want)
	}
}

// P605.
func TestEnd(t *testing.T) {
	for _, x := range []struct{ g, want api.Gens }{
		{gens(20, 10, 8, 0), gens(20, 0, 10, 8)},
		{gens(20, 10, 8, 6), gens(20, 0, 10, 8)},
		{gens(20, 0, 10, 8), gens(20, 0, 10, 8)},
		{gens(20, 4, 10, 8), gens(20, 0, 10, 8)},
		{gens(20, 10, 10, 8), gens(20, 0, 10, 8)},
		{gens(20, 8, 10, 8), gens(20, 0, 8, 10)},
		{gens(20, 20, 10, 8), gens(20, 0, 20, 10)},
		{gens(0, 1, 0, 0), gens(0, 0, 1, 0)},
	} {
		wantGens(t, "EndSource", EndSource(x.g), x.want)
	}
	for _, x := range []struct{ g, source, want api.Gens }{
		{gens(10, 0, 8, 0), gens(20, 0, 10, 8), gens(20, 0, 10, 8)},
		{gens(10, 7, 8, 3), gens(20, 9, 10, 8), gens(20, 0, 10, 8)},
		{gens(10, 7, 8, 3), gens(0, 4, 0, 4), gens(0, 0, 0, 4)},
	} {
		wantGens(t, "EndTarget", EndTarget(x.g, x.source), x.want)
	}
}

// pushed says in the document's order what laying x into the past does.
func pushed(g api.Gens, x uint64) api.Gens {
	switch x {
	case 0, 4, g.Old1:
		return g
	}
	return gens(g.Current, g.Bitmap, x, g.Old1)
}

// P602 to P605 at identifiers of every kind, against the document's sentences one by one.
func TestGensAtRandom(t *testing.T) {
	d := dice(6)
	for range 200000 {
		g, source, fresh := d.gens(), d.gens(), d.word()

		want := gens(fresh, g.Current, g.Old1, g.Old2)
		if g.Bitmap != 0 {
			want = pushed(g, g.Current)
			want.Current = fresh
		}
		wantGens(t, "Rotate", Rotate(g, fresh), want)

		want = g
		switch isNew := g.Current == 0 || g.Current == 4; {
		case g.Bitmap == 4, g.Bitmap == 0 && isNew:
			want.Bitmap = fresh
		case g.Bitmap == 0:
			want.Bitmap, want.Current = g.Current, fresh
		}
		wantGens(t, "BeginSource", BeginSource(g, fresh), want)

		want = g
		if source.Bitmap != 0 {
			if source.Bitmap != g.Current {
				want = pushed(g, g.Current)
			}
			want.Current, want.Bitmap = source.Bitmap, 0
		}
		wantGens(t, "BeginTarget", BeginTarget(g, source), want)

		want = pushed(g, g.Bitmap)
		want.Bitmap = 0
		wantGens(t, "EndSource", EndSource(g), want)
		wantGens(t, "EndTarget", EndTarget(g, source), gens(source.Current, 0, source.Old1, source.Old2))
	}
}

// P603 and P604 together: behind them the target has the source's Bitmap as its Current, and the source's own Current it does not have.
func TestBeginBoth(t *testing.T) {
	d := dice(7)
	for i := range 100000 {
		g, target := d.gens(), d.gens()
		fresh := Fresh(0, uint64(i))
		if fresh == g.Current || g.Bitmap == g.Current {
			continue
		}
		source := BeginSource(g, fresh)
		target = BeginTarget(target, source)
		if source.Bitmap == 0 || target.Current != source.Bitmap || target.Current == source.Current || target.Bitmap != 0 {
			t.Fatalf("of %v came %v at the source, %v at the target", g, source, target)
		}
	}
}
