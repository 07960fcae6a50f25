package locks

import (
	"math"
	"slices"
	"testing"

	"replica/api"
)

// watch: a table whose answers are held against what a test writes down.
type watch struct {
	*Table
	t *testing.T
}

func watched(t *testing.T, extents, waiters int) watch {
	t.Helper()
	l, e := New(extents, waiters)
	if l == nil || e != api.OK {
		t.Fatalf("New(%d, %d): %v", extents, waiters, e)
	}
	return watch{l, t}
}

func (w watch) acquires(extent, mode, owner int, want bool, wantE api.Errno) {
	w.t.Helper()
	if in, e := w.Acquire(extent, mode, owner); in != want || e != wantE {
		w.t.Errorf("Acquire(%d, %d, %d): %v, %v, want %v, %v", extent, mode, owner, in, e, want, wantE)
	}
}

func (w watch) releases(extent, owner int, wantE api.Errno, want ...int) {
	w.t.Helper()
	if came, e := w.Release(extent, owner); !slices.Equal(came, want) || e != wantE {
		w.t.Errorf("Release(%d, %d): %v, %v, want %v, %v", extent, owner, came, e, want, wantE)
	}
}

func (w watch) drops(owner int, want ...int) {
	w.t.Helper()
	if came := w.Drop(owner); !slices.Equal(came, want) {
		w.t.Errorf("Drop(%d): %v, want %v", owner, came, want)
	}
}

// is: what an extent has.
func (w watch) is(extent, mode int, in []int, row []int) {
	w.t.Helper()
	if got, m, e := w.Holders(extent); !slices.Equal(got, in) || m != mode || e != api.OK {
		w.t.Errorf("Holders(%d): %v, %d, %v, want %v, %d", extent, got, m, e, in, mode)
	}
	if got, e := w.Waiters(extent); !slices.Equal(got, row) || e != api.OK {
		w.t.Errorf("Waiters(%d): %v, %v, want %v", extent, got, e, row)
	}
}

func (w watch) waiting(want int) {
	w.t.Helper()
	if got := w.Waiting(); got != want {
		w.t.Errorf("Waiting: %d, want %d", got, want)
	}
}

// lastExtent: the table has just that many extents.
func (w watch) lastExtent(extents int) {
	w.t.Helper()
	w.is(extents-1, 0, nil, nil)
	for _, extent := range []int{math.MinInt, -1, extents, extents + 1, 1 << 32, math.MaxInt} {
		if l, m, e := w.Holders(extent); l != nil || m != 0 || e != api.ErrRange {
			w.t.Errorf("P905: of %d extents, Holders(%d): %v, %d, %v", extents, extent, l, m, e)
		}
		if l, e := w.Waiters(extent); l != nil || e != api.ErrRange {
			w.t.Errorf("P905: of %d extents, Waiters(%d): %v, %v", extents, extent, l, e)
		}
		if w.Holds(extent, 0) {
			w.t.Errorf("P905: of %d extents, Holds(%d, 0): true", extents, extent)
		}
	}
}

// P901.
func TestNew(t *testing.T) {
	for _, extents := range []int{1, 2, 4095, 4096} {
		for _, waiters := range []int{0, 1, 511, 512} {
			w := watched(t, extents, waiters)
			w.lastExtent(extents)
			w.is(0, 0, nil, nil)
			w.waiting(0)
			w.acquires(extents-1, api.Exclusive, -1, true, api.OK)
			for owner := range waiters {
				w.acquires(extents-1, api.Exclusive, owner, false, api.OK)
			}
			w.acquires(extents-1, api.Exclusive, waiters, false, api.ErrFull)
			w.waiting(waiters)
		}
	}
	badExtents := []int{math.MinInt, -1, 0, 4097, 1<<32 + 1, math.MaxInt}
	badWaiters := []int{math.MinInt, -1, 513, 1 << 32, math.MaxInt}
	for _, extents := range badExtents {
		for _, waiters := range append([]int{0, 512}, badWaiters...) {
			refusedNew(t, extents, waiters)
		}
	}
	for _, waiters := range badWaiters {
		refusedNew(t, 1, waiters)
		refusedNew(t, 4096, waiters)
	}
}

func refusedNew(t *testing.T, extents, waiters int) {
	t.Helper()
	if l, e := New(extents, waiters); l != nil || e != api.ErrArg {
		t.Errorf("P901: New(%d, %d): %v, %v", extents, waiters, l, e)
	}
}

// P901, P2: two tables know nothing of each other.
func TestTwoTables(t *testing.T) {
	a, b := watched(t, 1, 1), watched(t, 1, 1)
	a.acquires(0, api.Exclusive, 1, true, api.OK)
	a.acquires(0, api.Exclusive, 2, false, api.OK)
	b.waiting(0)
	b.acquires(0, api.Exclusive, 1, true, api.OK)
	b.acquires(0, api.Exclusive, 3, false, api.OK)
	b.drops(1, 3)
	a.is(0, api.Exclusive, []int{1}, []int{2})
}

// P902: which error comes first, and that nothing changes by it.
func TestAcquireRefused(t *testing.T) {
	w := watched(t, 2, 1)
	w.acquires(0, api.Shared, 1, true, api.OK)
	w.acquires(0, api.Exclusive, 2, false, api.OK)
	calls := []struct {
		extent, mode, owner int
		want                api.Errno
	}{
		{0, 0, 1, api.ErrArg}, {0, 3, 2, api.ErrArg}, {0, -1, 9, api.ErrArg}, {2, 0, 1, api.ErrArg}, {-1, 3, 9, api.ErrArg},
		{0, math.MinInt, 9, api.ErrArg}, {0, math.MaxInt, 9, api.ErrArg}, {1, 1<<32 + 1, 9, api.ErrArg},
		{-1, api.Shared, 1, api.ErrRange}, {2, api.Exclusive, 1, api.ErrRange}, {2, api.Shared, 9, api.ErrRange},
		{math.MinInt, api.Shared, 9, api.ErrRange}, {math.MaxInt, api.Exclusive, 9, api.ErrRange}, {1 << 32, api.Shared, 9, api.ErrRange},
		{0, api.Shared, 1, api.ErrHeld}, {0, api.Exclusive, 1, api.ErrHeld}, {0, api.Shared, 2, api.ErrHeld}, {0, api.Exclusive, 2, api.ErrHeld},
		{0, api.Shared, 9, api.ErrFull}, {0, api.Exclusive, 9, api.ErrFull},
	}
	for _, c := range calls {
		w.acquires(c.extent, c.mode, c.owner, false, c.want)
		w.is(0, api.Shared, []int{1}, []int{2})
		w.is(1, 0, nil, nil)
		w.waiting(1)
	}
	w.acquires(1, api.Exclusive, 2, true, api.OK) // a place at another extent, and one that needs no room
	w.acquires(1, api.Shared, 1, false, api.ErrFull)
	w.releases(0, 2, api.OK)
	w.acquires(1, api.Shared, 1, false, api.OK)
}

// P902: the last holder, in its mode; nobody in the row is overtaken.
func TestAcquireOrder(t *testing.T) {
	w := watched(t, 1, 4)
	w.acquires(0, api.Shared, math.MaxInt, true, api.OK)
	w.acquires(0, api.Shared, math.MinInt, true, api.OK)
	w.acquires(0, api.Shared, 0, true, api.OK)
	w.is(0, api.Shared, []int{math.MaxInt, math.MinInt, 0}, nil)
	w.acquires(0, api.Exclusive, -1, false, api.OK)
	w.acquires(0, api.Shared, 1, false, api.OK)
	w.acquires(0, api.Exclusive, 2, false, api.OK)
	w.acquires(0, api.Shared, 3, false, api.OK)
	w.is(0, api.Shared, []int{math.MaxInt, math.MinInt, 0}, []int{-1, 1, 2, 3})
	w.waiting(4)
}

// P903: refused, and nothing changes.
func TestReleaseRefused(t *testing.T) {
	w := watched(t, 2, 2)
	w.acquires(0, api.Exclusive, 1, true, api.OK)
	w.acquires(0, api.Shared, 2, false, api.OK)
	w.acquires(1, api.Shared, 3, true, api.OK)
	for _, extent := range []int{math.MinInt, -1, 2, 1 << 32, math.MaxInt} {
		w.releases(extent, 1, api.ErrRange)
		w.releases(extent, 9, api.ErrRange)
	}
	for _, owner := range []int{math.MinInt, -1, 0, 3, 1<<32 + 1, math.MaxInt} {
		w.releases(0, owner, api.ErrNotHeld)
	}
	w.releases(1, 1, api.ErrNotHeld)
	w.releases(1, 2, api.ErrNotHeld)
	w.is(0, api.Exclusive, []int{1}, []int{2})
	w.is(1, api.Shared, []int{3}, nil)
	w.waiting(1)
	w.releases(1, 3, api.OK)
	w.releases(1, 3, api.ErrNotHeld)
}

// P903: who comes in, from each kind of place that is given up.
func TestReleaseLetsIn(t *testing.T) {
	w := watched(t, 1, 9)
	w.acquires(0, api.Exclusive, 1, true, api.OK)
	for i, mode := range []int{api.Shared, api.Shared, api.Exclusive, api.Exclusive, api.Shared, api.Exclusive, api.Shared} {
		w.acquires(0, mode, 2+i, false, api.OK)
	}
	w.releases(0, 4, api.OK) // out of the row's middle
	w.is(0, api.Exclusive, []int{1}, []int{2, 3, 5, 6, 7, 8})
	w.releases(0, 1, api.OK, 2, 3)
	w.is(0, api.Shared, []int{2, 3}, []int{5, 6, 7, 8})
	w.waiting(4)
	w.releases(0, 2, api.OK)
	w.releases(0, 5, api.OK, 6) // an Exclusive one that never had it
	w.is(0, api.Shared, []int{3, 6}, []int{7, 8})
	w.releases(0, 3, api.OK)
	w.releases(0, 6, api.OK, 7) // one Exclusive alone
	w.is(0, api.Exclusive, []int{7}, []int{8})
	w.releases(0, 7, api.OK, 8)
	w.releases(0, 8, api.OK)
	w.is(0, 0, nil, nil)
	w.waiting(0)
	w.acquires(0, api.Exclusive, 1, true, api.OK)
}

// P903: a holder between others leaves, and the order of the rest stays; who asks again is the last.
func TestReleaseKeepsOrder(t *testing.T) {
	w := watched(t, 1, 0)
	for _, owner := range []int{5, 3, 9, 1} {
		w.acquires(0, api.Shared, owner, true, api.OK)
	}
	w.releases(0, 3, api.OK)
	w.is(0, api.Shared, []int{5, 9, 1}, nil)
	w.acquires(0, api.Shared, 3, true, api.OK)
	w.releases(0, 5, api.OK)
	w.is(0, api.Shared, []int{9, 1, 3}, nil)
}

// P903: a full row, all of which comes in at once.
func TestReleaseWholeRow(t *testing.T) {
	w := watched(t, 1, api.MaxWaiters)
	w.acquires(0, api.Exclusive, 0, true, api.OK)
	var all []int
	for owner := 1; owner <= api.MaxWaiters; owner++ {
		w.acquires(0, api.Shared, owner, false, api.OK)
		all = append(all, owner)
	}
	w.acquires(0, api.Shared, -1, false, api.ErrFull)
	w.releases(0, 0, api.OK, all...)
	w.is(0, api.Shared, all, nil)
	w.waiting(0)
	w.acquires(0, api.Shared, -1, true, api.OK)
}

// P904.
func TestDrop(t *testing.T) {
	w := watched(t, 5, 20)
	w.drops(1)
	w.acquires(4, api.Exclusive, 1, true, api.OK) // not in the order of the extents
	w.acquires(4, api.Shared, 2, false, api.OK)
	w.acquires(0, api.Exclusive, 1, true, api.OK)
	w.acquires(0, api.Shared, 3, false, api.OK)
	w.acquires(0, api.Shared, 2, false, api.OK)
	w.acquires(1, api.Shared, 2, true, api.OK)
	w.acquires(1, api.Exclusive, 1, false, api.OK)
	w.acquires(1, api.Shared, 4, false, api.OK)
	w.acquires(2, api.Exclusive, 4, true, api.OK)
	w.acquires(2, api.Exclusive, 1, false, api.OK)
	w.acquires(2, api.Exclusive, 2, false, api.OK)
	w.acquires(3, api.Exclusive, 5, true, api.OK)
	w.acquires(3, api.Exclusive, 6, false, api.OK)
	w.waiting(8)
	w.drops(math.MinInt)
	w.drops(1, 3, 2, 4, 2)
	w.is(0, api.Shared, []int{3, 2}, nil)
	w.is(1, api.Shared, []int{2, 4}, nil)
	w.is(2, api.Exclusive, []int{4}, []int{2})
	w.is(3, api.Exclusive, []int{5}, []int{6})
	w.is(4, api.Shared, []int{2}, nil)
	w.waiting(2)
	w.drops(1)
	w.drops(2)
	w.waiting(1)
	w.is(2, api.Exclusive, []int{4}, nil)
}

// P905: a waiter does not hold; one that waits for two extents counts twice; to ask changes nothing.
func TestTold(t *testing.T) {
	w := watched(t, 3, 4)
	w.acquires(0, api.Exclusive, -7, true, api.OK)
	w.acquires(1, api.Shared, -7, true, api.OK)
	w.acquires(0, api.Shared, 8, false, api.OK)
	w.acquires(1, api.Exclusive, 8, false, api.OK)
	for range 3 {
		w.waiting(2)
		w.lastExtent(3)
		w.is(0, api.Exclusive, []int{-7}, []int{8})
		w.is(1, api.Shared, []int{-7}, []int{8})
		for extent, want := range []bool{true, true, false} {
			if w.Holds(extent, -7) != want || w.Holds(extent, 8) || w.Holds(extent, 7) {
				t.Errorf("P905: Holds of extent %d", extent)
			}
		}
	}
	w.drops(-7, 8, 8)
	if !w.Holds(0, 8) || !w.Holds(1, 8) || w.Holds(0, -7) {
		t.Errorf("P905: Holds behind a Drop")
	}
	w.waiting(0)
}

// P906: a list that was answered is its owner's, with its spare room: to write there changes no other list and nothing that is kept.
func TestNewMemory(t *testing.T) {
	w := watched(t, 2, 9)
	for extent := range 2 {
		w.acquires(extent, api.Exclusive, 1, true, api.OK)
		for owner := 2; owner < 6; owner++ {
			w.acquires(extent, api.Shared, owner, false, api.OK)
		}
	}
	row, _ := w.Waiters(0)
	again, _ := w.Waiters(0)
	came, _ := w.Release(0, 1)
	in, _, _ := w.Holders(0)
	more := w.Drop(1)
	lists := [][]int{row, again, came, in, more}
	for i, list := range lists {
		spoil(list)
		for _, other := range lists[i+1:] {
			if !slices.Equal(other, []int{2, 3, 4, 5}) {
				t.Fatalf("P906: list %d shares memory with another: %v", i, other)
			}
		}
	}
	for extent := range 2 {
		w.is(extent, api.Shared, []int{2, 3, 4, 5}, nil)
	}
	w.acquires(0, api.Shared, 6, true, api.OK)
	w.is(0, api.Shared, []int{2, 3, 4, 5, 6}, nil)
}
