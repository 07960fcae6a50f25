package locks

import (
	"math"
	"slices"
	"sync"
	"testing"

	"replica/api"
)

// dice: numbers that look like chance and are the same each time.
type dice uint64

func (d *dice) below(n int) int {
	*d = *d*6364136223846793005 + 1442695040888963407
	return int(uint64(*d) >> 33 % uint64(n))
}

// pair: the table and its model, that are given the same calls.
type pair struct {
	t    *testing.T
	l    *Table
	p    *plain
	step int
}

func newPair(t *testing.T, extents, waiters int) *pair {
	t.Helper()
	l, e := New(extents, waiters)
	if l == nil || e != api.OK {
		t.Fatalf("New(%d, %d): %v", extents, waiters, e)
	}
	return &pair{t: t, l: l, p: newPlain(extents, waiters)}
}

// spoil writes over a list and its spare room: whoever keeps the same memory is found out by what it tells next.
func spoil(list []int) {
	list = list[:cap(list)]
	for i := range list {
		list[i] = 987654321 + i
	}
}

func (c *pair) acquire(extent, mode, owner int) {
	c.t.Helper()
	c.step++
	in, e := c.l.Acquire(extent, mode, owner)
	if want, wantE := c.p.acquire(extent, mode, owner); in != want || e != wantE {
		c.t.Fatalf("step %d: P902: Acquire(%d, %d, %d): %v, %v, want %v, %v", c.step, extent, mode, owner, in, e, want, wantE)
	}
}

func (c *pair) release(extent, owner int) {
	c.t.Helper()
	c.step++
	came, e := c.l.Release(extent, owner)
	if want, wantE := c.p.release(extent, owner); !slices.Equal(came, want) || e != wantE {
		c.t.Fatalf("step %d: P903: Release(%d, %d): %v, %v, want %v, %v", c.step, extent, owner, came, e, want, wantE)
	}
	spoil(came)
}

func (c *pair) drop(owner int) {
	c.t.Helper()
	c.step++
	came := c.l.Drop(owner)
	if want := c.p.drop(owner); !slices.Equal(came, want) {
		c.t.Fatalf("step %d: P904: Drop(%d): %v, want %v", c.step, owner, came, want)
	}
	if slices.Contains(came, owner) {
		c.t.Fatalf("step %d: P904: Drop(%d) tells it: %v", c.step, owner, came)
	}
	spoil(came)
}

// alike holds what P905 tells of an extent against the model, and against P907.
func (c *pair) alike(extent int, some []int) {
	c.t.Helper()
	in, mode, e := c.l.Holders(extent)
	if want, wantMode, wantE := c.p.holders(extent); !slices.Equal(in, want) || mode != wantMode || e != wantE {
		c.t.Fatalf("step %d: P905: Holders(%d): %v, %d, %v, want %v, %d, %v", c.step, extent, in, mode, e, want, wantMode, wantE)
	}
	row, e := c.l.Waiters(extent)
	if want, wantE := c.p.waits(extent); !slices.Equal(row, want) || e != wantE {
		c.t.Fatalf("step %d: P905: Waiters(%d): %v, %v, want %v, %v", c.step, extent, row, e, want, wantE)
	}
	for _, owner := range some {
		if got, want := c.l.Holds(extent, owner), c.p.holds(extent, owner); got != want || got != slices.Contains(in, owner) {
			c.t.Fatalf("step %d: P905: Holds(%d, %d): %v, want %v, the holders are %v", c.step, extent, owner, got, want, in)
		}
	}
	if mode == api.Exclusive && len(in) != 1 {
		c.t.Fatalf("step %d: P907: Exclusive, and the holders are %v", c.step, in)
	}
	if len(in) == 0 && len(row) != 0 {
		c.t.Fatalf("step %d: P907: extent %d has no holder, and %v wait", c.step, extent, row)
	}
	if len(row) != 0 && mode == api.Shared && c.p.rows[extent][len(in)].mode == api.Shared {
		c.t.Fatalf("step %d: P907: the first of %v goes with the holders %v", c.step, row, in)
	}
	spoil(in)
	spoil(row)
}

func (c *pair) alikeWhole(some []int) {
	c.t.Helper()
	for extent := -1; extent <= len(c.p.rows); extent++ {
		c.alike(extent, some)
	}
	if got, want := c.l.Waiting(), c.p.waiting(); got != want || got > c.p.waiters {
		c.t.Fatalf("step %d: P905, P907: Waiting: %d, want %d, at most %d", c.step, got, want, c.p.waiters)
	}
}

// chance makes one call, wrong ones now and then.
func (c *pair) chance(d *dice, some []int) {
	c.t.Helper()
	extent, owner := d.below(len(c.p.rows)), some[d.below(len(some))]
	if d.below(40) == 0 {
		far := []int{math.MinInt, -1, len(c.p.rows), len(c.p.rows) + 1, 1 << 32, math.MaxInt}
		extent = far[d.below(len(far))]
	}
	mode := 1 + d.below(2)
	if d.below(40) == 0 {
		modes := []int{math.MinInt, -1, 0, 3, 1<<32 + 1, math.MaxInt}
		mode = modes[d.below(len(modes))]
	}
	switch n := d.below(100); {
	case n < 55:
		c.acquire(extent, mode, owner)
	case n < 97:
		c.release(extent, owner)
	default:
		c.drop(owner)
	}
}

// P902 to P907, in long rows of calls.
func TestRows(t *testing.T) {
	far := []int{math.MinInt, math.MinInt + 1, -1 << 32, -2, -1, 0, 1, 2, 1 << 32, math.MaxInt - 1, math.MaxInt}
	sizes := [][3]int{{1, 0, 3}, {1, 1, 3}, {1, 5, 11}, {2, 2, 4}, {3, 4, 11}, {5, 20, 8}, {2, 512, 11}}
	for i, s := range sizes {
		d := dice(i + 1)
		c := newPair(t, s[0], s[1])
		some := far[:s[2]]
		for range 20000 {
			c.chance(&d, some)
			c.alikeWhole(some)
		}
	}
}

// P902 to P907, in a great table: many extents, and so many that ask that there is no room at times.
func TestGreatTable(t *testing.T) {
	d := dice(99)
	c := newPair(t, api.MaxBlocks, api.MaxWaiters)
	some := make([]int, 100)
	for i := range some {
		some[i] = d.below(1<<30) - 1<<29
	}
	full := 0
	for range 6000 {
		extent, owner := d.below(12)*371, some[d.below(len(some))] // few extents, far apart
		if d.below(5) == 0 {
			c.release(extent, owner)
		} else {
			c.acquire(extent, 1+d.below(2), owner)
		}
		c.alike(extent, some[:5])
		if c.l.Waiting() == api.MaxWaiters {
			full++
		}
	}
	for i, owner := range some {
		c.drop(owner)
		c.alike(i%12*371, some[:5])
	}
	c.alikeWhole(nil)
	if full == 0 || c.l.Waiting() != 0 {
		t.Fatalf("never full, or %d wait behind all drops", c.l.Waiting())
	}
}

// rowsOf: every row of claims of the owners 1 to n, each at most once, in both modes.
func rowsOf(n int) [][]asked {
	out := [][]asked{nil}
	for i := 0; i < len(out); i++ {
		for owner := 1; owner <= n; owner++ {
			if slices.Contains(names(out[i]), owner) {
				continue
			}
			for mode := api.Shared; mode <= api.Exclusive; mode++ {
				out = append(out, append(slices.Clone(out[i]), asked{owner, mode}))
			}
		}
	}
	return out
}

// build lays rows into a new pair, claim by claim; nil: there is no room for them.
func build(t *testing.T, waiters int, rows ...[]asked) *pair {
	t.Helper()
	c := newPair(t, len(rows), waiters)
	for extent, row := range rows {
		for _, a := range row {
			c.acquire(extent, a.mode, a.owner)
		}
		if len(c.p.rows[extent]) != len(row) {
			return nil
		}
	}
	return c
}

// P902 to P907: every call in every state of a small table of one extent, and of two.
func TestEveryState(t *testing.T) {
	for _, row := range rowsOf(4) {
		for waiters := range 4 {
			everyCall(t, 5, waiters, row)
		}
	}
	for _, first := range rowsOf(2) {
		for _, second := range rowsOf(2) {
			for waiters := range 3 {
				everyCall(t, 3, waiters, first, second)
			}
		}
	}
}

func everyCall(t *testing.T, ownersEnd, waiters int, rows ...[]asked) {
	t.Helper()
	if build(t, waiters, rows...) == nil {
		return
	}
	some := []int{}
	for owner := range ownersEnd + 1 {
		some = append(some, owner)
	}
	with := func(call func(c *pair)) {
		t.Helper()
		c := build(t, waiters, rows...)
		call(c)
		c.alikeWhole(some)
	}
	for _, owner := range some {
		for extent := range rows {
			for mode := range 4 {
				with(func(c *pair) { c.acquire(extent, mode, owner) })
			}
			with(func(c *pair) { c.release(extent, owner) })
		}
		with(func(c *pair) { c.drop(owner) })
	}
}

// P904: a Drop is a row of Releases.
func TestDropIsReleases(t *testing.T) {
	for seed := range 200 {
		d, twin := dice(seed), dice(seed)
		a, b := newPair(t, 6, 10), newPair(t, 6, 10)
		some := []int{-3, 0, 1, 2, 5}
		for range 60 {
			a.chance(&d, some)
			b.chance(&twin, some)
		}
		owner := some[d.below(len(some))]
		var want []int
		for extent := range 6 {
			came, _ := b.l.Release(extent, owner)
			want = append(want, came...)
		}
		if got := a.l.Drop(owner); !slices.Equal(got, want) {
			t.Fatalf("P904: Drop(%d): %v, the Releases tell %v", owner, got, want)
		}
		for extent := range 6 {
			sameAnswers(t, a.l, b.l, extent)
		}
	}
}

func sameAnswers(t *testing.T, a, b *Table, extent int) {
	t.Helper()
	inA, modeA, _ := a.Holders(extent)
	inB, modeB, _ := b.Holders(extent)
	rowA, _ := a.Waiters(extent)
	rowB, _ := b.Waiters(extent)
	if !slices.Equal(inA, inB) || modeA != modeB || !slices.Equal(rowA, rowB) || a.Waiting() != b.Waiting() {
		t.Fatalf("P904: extent %d: %v, %d, %v, want %v, %d, %v", extent, inA, modeA, rowA, inB, modeB, rowB)
	}
}

// Ways: the mutex. Many who ask at the same time leave what they would leave one behind the other.
func TestAtOnce(t *testing.T) {
	const workers, each = 8, 400
	l, e := New(2, api.MaxWaiters)
	if e != api.OK {
		t.Fatalf("New: %v", e)
	}
	together(workers, func(w int) {
		for i := range each {
			owner := w*each + i
			if in, e := l.Acquire(0, api.Shared, owner); !in || e != api.OK {
				t.Errorf("Acquire(0, Shared, %d): %v, %v", owner, in, e)
			}
			l.Acquire(1, api.Exclusive, owner)
			l.Holders(1)
			l.Waiters(1)
			l.Waiting()
			if !l.Holds(0, owner) {
				t.Errorf("Holds(0, %d): false", owner)
			}
		}
	})
	in, mode, _ := l.Holders(0)
	slices.Sort(in)
	if len(slices.Compact(in)) != workers*each || mode != api.Shared {
		t.Fatalf("%d hold extent 0, mode %d", len(in), mode)
	}
	if in, mode, _ := l.Holders(1); len(in) != 1 || mode != api.Exclusive || l.Waiting() != api.MaxWaiters {
		t.Fatalf("%v hold extent 1, mode %d, %d wait", in, mode, l.Waiting())
	}
	together(workers, func(w int) {
		for i := range each {
			l.Release(0, w*each+i)
			l.Drop(w*each + i)
		}
	})
	for extent := range 2 {
		if in, mode, _ := l.Holders(extent); len(in) != 0 || mode != 0 || l.Waiting() != 0 {
			t.Fatalf("behind all: %v hold extent %d, mode %d, %d wait", in, extent, mode, l.Waiting())
		}
	}
}

func together(workers int, work func(w int)) {
	var all sync.WaitGroup
	for w := range workers {
		all.Add(1)
		go func() {
			defer all.Done()
			work(w)
		}()
	}
	all.Wait()
}
