package actlog

import (
	"bytes"
	"math"
	"slices"
	"testing"

	"replica/api"
)

func madeLog(t *testing.T, slots, extents, size int, first uint32) *Log {
	t.Helper()
	l, e := New(slots, extents, size, first)
	if l == nil || e != api.OK {
		t.Fatalf("New(%d, %d, %d, %d): %v, %d", slots, extents, size, first, l, e)
	}
	return l
}

// wantFresh makes an extent hot and gives its record.
func wantFresh(t *testing.T, l *Log, extent int, want api.Change) []byte {
	t.Helper()
	number := l.Number()
	change, record, e := l.Begin(extent)
	if change != want || record == nil || e != api.OK || l.Number() != number+1 {
		t.Fatalf("Begin(%d): %v, %d bytes, %d, then number %d", extent, change, len(record), e, l.Number())
	}
	return record
}

// wantNoRecord begins where no record is to come: the extent is hot, or it is refused.
func wantNoRecord(t *testing.T, l *Log, extent int, want api.Errno) {
	t.Helper()
	before := stateOf(l)
	if change, record, e := l.Begin(extent); change != (api.Change{}) || record != nil || e != want {
		t.Errorf("Begin(%d): %v, %x, %d, want %d", extent, change, record, e, want)
	}
	if want == api.OK {
		before.keys = l.lru.Keys()
	}
	before.want(t, l)
}

func wantEnd(t *testing.T, l *Log, extent int, want api.Errno) {
	t.Helper()
	before := stateOf(l)
	if e := l.End(extent); e != want {
		t.Errorf("End(%d): %d, want %d", extent, e, want)
	}
	if want == api.OK {
		before.keys = l.lru.Keys()
	}
	before.want(t, l)
}

// logState: what a log tells, and in which order its extents will go.
type logState struct {
	hot, slots, keys []int
	number           uint32
}

func stateOf(l *Log) logState { return logState{l.Hot(), l.Slots(), l.lru.Keys(), l.Number()} }

func (s logState) want(t *testing.T, l *Log) {
	t.Helper()
	now := stateOf(l)
	if !slices.Equal(s.hot, now.hot) || !slices.Equal(s.slots, now.slots) || !slices.Equal(s.keys, now.keys) || s.number != now.number {
		t.Errorf("the log was %v, is %v", s, now)
	}
}

// P406.
func TestNewDomain(t *testing.T) {
	refused := func(slots, extents, size int) {
		t.Helper()
		if l, e := New(slots, extents, size, 0); l != nil || e != api.ErrArg {
			t.Errorf("New(%d, %d, %d): %v, %d", slots, extents, size, l, e)
		}
	}
	for _, slots := range wrongSlots {
		refused(slots, 10, 128)
	}
	for _, extents := range wrongExtents {
		refused(1, extents, 128)
	}
	for _, size := range []int{math.MinInt, -128, -1, 0, 1, 64, 127, 129, 192, 255, 257, 384, 511, 513, 768, 1023, 1025, 2048, math.MaxInt} {
		refused(1, 10, size)
	}
	for _, slots := range []int{1, 2, 15, 16} {
		for _, extents := range []int{1, 2, 1023, 1024} {
			for _, size := range []int{128, 256, 512, 1024} {
				l := madeLog(t, slots, extents, size, 9)
				if len(l.Hot()) != 0 || l.Number() != 9 || !slices.Equal(l.Slots(), slices.Repeat([]int{-1}, slots)) {
					t.Errorf("a new log: %v", stateOf(l))
				}
				wantNoRecord(t, l, extents, api.ErrRange)
				if block := wantFresh(t, l, extents-1, api.Change{Slot: 0, Extent: extents - 1, Old: -1}); len(block) != size {
					t.Errorf("a record of %d bytes, want %d", len(block), size)
				}
			}
		}
	}
}

var wrongExtents = []int{math.MinInt, -1, 0, 1025, math.MaxInt}

// The third example of the chapter; P407 to P409.
func TestLogOfOneSlot(t *testing.T) {
	l := madeLog(t, 1, 10, 128, 6)
	wantFresh(t, l, 3, api.Change{Slot: 0, Extent: 3, Old: -1})
	wantNoRecord(t, l, 3, api.OK)
	if l.Refs(3) != 2 || l.Refs(4) != 0 {
		t.Errorf("references: %d, %d", l.Refs(3), l.Refs(4))
	}
	wantNoRecord(t, l, 4, api.ErrStarved)
	wantEnd(t, l, 3, api.OK)
	wantEnd(t, l, 3, api.OK)
	wantEnd(t, l, 3, api.ErrCold)
	wantEnd(t, l, 4, api.ErrCold)
	if !slices.Equal(l.Hot(), []int{3}) || !slices.Equal(l.Slots(), []int{3}) || l.Refs(3) != 0 {
		t.Errorf("an extent without a reference stays hot: %v", stateOf(l))
	}
	wantFresh(t, l, 4, api.Change{Slot: 0, Extent: 4, Old: 3})
	if l.Number() != 8 {
		t.Errorf("Number %d", l.Number())
	}
}

// P407 to P409: extents that do not exist, at a log that is starved, so that the order of the errors shows.
func TestExtentsThatDoNotExist(t *testing.T) {
	l := madeLog(t, 1, 10, 128, 0)
	wantFresh(t, l, 9, api.Change{Slot: 0, Extent: 9, Old: -1})
	for _, extent := range []int{math.MinInt, -1, 10, 1024, math.MaxInt} {
		wantNoRecord(t, l, extent, api.ErrRange)
		wantEnd(t, l, extent, api.ErrRange)
		if l.Refs(extent) != 0 {
			t.Errorf("Refs(%d): %d", extent, l.Refs(extent))
		}
	}
}

// P407: the extent 0 is one like others, as the one that goes too; Old is -1 for a free slot alone.
func TestExtentZero(t *testing.T) {
	l := madeLog(t, 2, 10, 128, 0)
	wantFresh(t, l, 0, api.Change{Slot: 0, Extent: 0, Old: -1})
	wantEnd(t, l, 0, api.OK)
	wantFresh(t, l, 5, api.Change{Slot: 1, Extent: 5, Old: -1})
	wantFresh(t, l, 6, api.Change{Slot: 0, Extent: 6, Old: 0})
}

// P407 to P409: long rows of calls, held against the Lru's model.
func TestLogAgainstModel(t *testing.T) {
	d := dice(41)
	for slots := api.MinSlots; slots <= api.MaxSlots; slots++ {
		extents := 2*slots + 1
		number := ^uint32(0) - 40
		l, m := madeLog(t, slots, extents, 128, number), &lruModel{free: slots}
		for range 300 {
			extent := d.roll(extents)
			if d.roll(2) == 0 {
				wantEnd(t, l, extent, m.put(extent))
			} else {
				want := m.get(extent)
				if !want.gone {
					want.old = -1
				}
				if want.fresh {
					wantFresh(t, l, extent, api.Change{Slot: want.slot, Extent: extent, Old: want.old})
					number++
				} else {
					wantNoRecord(t, l, extent, want.err)
				}
			}
			m.compareLog(t, l, number)
			if t.Failed() {
				t.Fatalf("of %d slots", slots)
			}
		}
	}
}

func (m *lruModel) compareLog(t *testing.T, l *Log, number uint32) {
	t.Helper()
	m.compare(t, l.lru, 2*len(l.Slots())+1)
	for slot, extent := range m.keys {
		if l.Refs(extent) != m.refs[slot] {
			t.Errorf("Refs(%d): %d, want %d", extent, l.Refs(extent), m.refs[slot])
		}
	}
	free := slices.Repeat([]int{-1}, m.free)
	if hot := slices.Sorted(slices.Values(m.keys)); !slices.Equal(l.Hot(), hot) || !slices.Equal(l.Slots(), slices.Concat(m.keys, free)) || l.Number() != number {
		t.Errorf("%v, want the slots %v and the number %d", stateOf(l), m.keys, number)
	}
}

// P401: a log keeps nothing of a list that it gave, and knows nothing of another one.
func TestLogShares(t *testing.T) {
	l, other := madeLog(t, 5, 100, 128, 0), madeLog(t, 5, 100, 128, 0)
	wantFresh(t, l, 70, api.Change{Slot: 0, Extent: 70, Old: -1})
	record := wantFresh(t, l, 20, api.Change{Slot: 1, Extent: 20, Old: -1})
	before := stateOf(l)
	hot, row := l.Hot(), l.Slots()
	for i := range cap(record) {
		record[:cap(record)][i] = 0xa5
	}
	for _, list := range [][]int{hot[:cap(hot)], row[:cap(row)]} {
		for i := range list {
			list[i] = 99
		}
	}
	before.want(t, l)
	same := madeLog(t, 5, 100, 128, 0)
	for i, extent := range []int{70, 20} {
		wantFresh(t, same, extent, api.Change{Slot: i, Extent: extent, Old: -1})
	}
	change := api.Change{Slot: 2, Extent: 30, Old: -1}
	if !bytes.Equal(wantFresh(t, l, 30, change), wantFresh(t, same, 30, change)) {
		t.Error("what was done to an answer shows in a later one")
	}
	if len(other.Hot()) != 0 || other.Number() != 0 {
		t.Errorf("another log: %v", stateOf(other))
	}
}
