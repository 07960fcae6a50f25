package actlog

import (
	"math"
	"slices"
	"testing"

	"replica/api"
)

// dice: numbers that are the same at each run.
type dice uint64

func (d *dice) roll(n int) int {
	*d = *d*6364136223846793005 + 1442695040888963407
	return int(uint64(*d) >> 33 % uint64(n))
}

// got: what Get answers.
type got[K comparable] struct {
	slot  int
	fresh bool
	old   K
	gone  bool
	err   api.Errno
}

func made[K comparable](t *testing.T, slots int, keys ...K) *Lru[K] {
	t.Helper()
	l, e := NewLru[K](slots)
	if l == nil || e != api.OK {
		t.Fatalf("NewLru(%d): %v, %d", slots, l, e)
	}
	for slot, key := range keys {
		wantGet(t, l, key, got[K]{slot: slot, fresh: true})
	}
	return l
}

func wantGet[K comparable](t *testing.T, l *Lru[K], key K, want got[K]) {
	t.Helper()
	slot, fresh, old, gone, e := l.Get(key)
	if answer := (got[K]{slot, fresh, old, gone, e}); answer != want {
		t.Errorf("Get(%v): %v, want %v", key, answer, want)
	}
}

func wantPut[K comparable](t *testing.T, l *Lru[K], key K, want api.Errno) {
	t.Helper()
	if e := l.Put(key); e != want {
		t.Errorf("Put(%v): %d, want %d", key, e, want)
	}
}

func wantKeys[K comparable](t *testing.T, l *Lru[K], want ...K) {
	t.Helper()
	if keys := l.Keys(); !slices.Equal(keys, want) {
		t.Errorf("Keys: %v, want %v", keys, want)
	}
}

func wantKey[K comparable](t *testing.T, l *Lru[K], key K, slot int, refs int) {
	t.Helper()
	if l.Slot(key) != slot || l.Refs(key) != refs {
		t.Errorf("%v: slot %d, %d references, want %d, %d", key, l.Slot(key), l.Refs(key), slot, refs)
	}
}

var wrongSlots = []int{math.MinInt, -1, 0, api.MaxSlots + 1, math.MaxInt}

// P402.
func TestNewLru(t *testing.T) {
	for _, slots := range wrongSlots {
		if l, e := NewLru[string](slots); l != nil || e != api.ErrArg {
			t.Errorf("NewLru(%d): %v, %d", slots, l, e)
		}
	}
	for slots := api.MinSlots; slots <= api.MaxSlots; slots++ {
		l := made[int](t, slots)
		wantKeys(t, l)
		wantKey(t, l, 0, -1, 0)
		for i := range slots {
			wantGet(t, l, 100-i, got[int]{slot: i, fresh: true})
		}
		wantGet(t, l, 0, got[int]{err: api.ErrStarved})
	}
}

// The first example of the chapter; P403 to P405.
func TestLruOfTwo(t *testing.T) {
	l := made(t, 2, "a", "b")
	wantGet(t, l, "c", got[string]{err: api.ErrStarved})
	wantKeys(t, l, "a", "b")
	wantPut(t, l, "b", api.OK)
	wantPut(t, l, "b", api.ErrCold)
	wantPut(t, l, "x", api.ErrCold)
	wantKeys(t, l, "b", "a")
	wantKey(t, l, "b", 1, 0)
	wantGet(t, l, "c", got[string]{slot: 1, fresh: true, old: "b", gone: true})
	wantKey(t, l, "b", -1, 0)
	wantKey(t, l, "c", 1, 1)
	wantGet(t, l, "c", got[string]{slot: 1})
	wantKey(t, l, "c", 1, 2)
}

// The second example of the chapter: a key that is taken again counts anew.
func TestLruCountsAnew(t *testing.T) {
	l := made(t, 3, 7, 8, 9)
	for _, key := range []int{8, 7, 9} {
		wantPut(t, l, key, api.OK)
	}
	wantKeys(t, l, 8, 7, 9)
	wantGet(t, l, 8, got[int]{slot: 1})
	wantKeys(t, l, 7, 9, 8)
	wantPut(t, l, 8, api.OK)
	wantKeys(t, l, 7, 9, 8)
	wantGet(t, l, 1, got[int]{slot: 0, fresh: true, old: 7, gone: true})
	wantGet(t, l, 2, got[int]{slot: 2, fresh: true, old: 9, gone: true})
	wantKeys(t, l, 8, 1, 2)
}

// P404: but the Put that gives the last reference back begins the time.
func TestLruKeepsReferences(t *testing.T) {
	l := made(t, 2, 5, 6)
	wantGet(t, l, 5, got[int]{slot: 0})
	wantPut(t, l, 5, api.OK)
	wantPut(t, l, 6, api.OK)
	wantKeys(t, l, 6, 5)
	wantPut(t, l, 5, api.OK)
	wantKeys(t, l, 6, 5)
	wantGet(t, l, 7, got[int]{slot: 1, fresh: true, old: 6, gone: true})
	wantGet(t, l, 6, got[int]{slot: 0, fresh: true, old: 5, gone: true})
	wantGet(t, l, 5, got[int]{err: api.ErrStarved})
}

// P403: a free slot is taken ahead of one whose key has no reference; a zero key is a key like others, and goes as such.
func TestLruFreeSlotFirst(t *testing.T) {
	l := made(t, 2, 0)
	wantPut(t, l, 0, api.OK)
	wantGet(t, l, 4, got[int]{slot: 1, fresh: true})
	wantGet(t, l, 5, got[int]{slot: 0, fresh: true, old: 0, gone: true})
	wantKey(t, l, 0, -1, 0)
}

// P403, for other kinds of keys.
func TestLruKinds(t *testing.T) {
	type pair struct {
		name string
		at   [2]int
	}
	l := made(t, 1, pair{"a", [2]int{1, 2}})
	wantGet(t, l, pair{"a", [2]int{1, 3}}, got[pair]{err: api.ErrStarved})
	wantGet(t, l, pair{"a", [2]int{1, 2}}, got[pair]{})
	faces := made(t, 2, any(1), any("1"))
	wantGet(t, faces, any(uint(1)), got[any]{err: api.ErrStarved})
	wantGet(t, faces, any("1"), got[any]{slot: 1})
}

// P401: an Lru keeps nothing of a list that it gave, and knows nothing of another one.
func TestLruShares(t *testing.T) {
	l, other := made(t, 3, 1, 2), made(t, 3, 9)
	wantPut(t, l, 2, api.OK)
	keys := l.Keys()
	more := append(keys, 5)
	keys[0], more[1] = 77, 78
	wantKeys(t, l, 2, 1)
	wantGet(t, l, 3, got[int]{slot: 2, fresh: true})
	wantGet(t, l, 4, got[int]{slot: 1, fresh: true, old: 2, gone: true})
	wantKeys(t, l, 1, 4, 3)
	wantKeys(t, other, 9)
	wantKey(t, other, 1, -1, 0)
}

// lruModel: an Lru as a row of keys, each with the time of the Put since which it has no reference.
type lruModel struct {
	keys, refs, since []int
	free, now         int
}

func (m *lruModel) get(key int) got[int] {
	if slot := slices.Index(m.keys, key); slot >= 0 {
		m.refs[slot]++
		return got[int]{slot: slot}
	}
	if m.free > 0 {
		m.free--
		m.keys, m.refs, m.since = append(m.keys, key), append(m.refs, 1), append(m.since, 0)
		return got[int]{slot: len(m.keys) - 1, fresh: true}
	}
	oldest := -1
	for slot := range m.keys {
		if m.refs[slot] == 0 && (oldest < 0 || m.since[slot] < m.since[oldest]) {
			oldest = slot
		}
	}
	if oldest < 0 {
		return got[int]{err: api.ErrStarved}
	}
	old := m.keys[oldest]
	m.keys[oldest], m.refs[oldest] = key, 1
	return got[int]{slot: oldest, fresh: true, old: old, gone: true}
}

func (m *lruModel) put(key int) api.Errno {
	m.now++
	slot := slices.Index(m.keys, key)
	if slot < 0 || m.refs[slot] == 0 {
		return api.ErrCold
	}
	m.refs[slot]--
	m.since[slot] = m.now
	return api.OK
}

func (m *lruModel) order() []int {
	slots := make([]int, len(m.keys))
	for i := range slots {
		slots[i] = i
	}
	slices.SortStableFunc(slots, func(a, b int) int {
		switch idleA, idleB := m.refs[a] == 0, m.refs[b] == 0; {
		case idleA && idleB:
			return m.since[a] - m.since[b]
		case idleA:
			return -1
		case idleB:
			return 1
		}
		return a - b
	})
	for i, slot := range slots {
		slots[i] = m.keys[slot]
	}
	return slots
}

func (m *lruModel) compare(t *testing.T, l *Lru[int], keys int) {
	t.Helper()
	wantKeys(t, l, m.order()...)
	for key := range keys {
		slot, refs := slices.Index(m.keys, key), 0
		if slot >= 0 {
			refs = m.refs[slot]
		}
		wantKey(t, l, key, slot, refs)
	}
}

// P403 to P405: long rows of calls, held against the model; so an error changes nothing, and what tells changes nothing.
func TestLruAgainstModel(t *testing.T) {
	d := dice(4)
	for slots := api.MinSlots; slots <= api.MaxSlots; slots++ {
		for _, keys := range []int{slots, slots + 1, 2*slots + 3} {
			l, m := made[int](t, slots), &lruModel{free: slots}
			for range 400 {
				key := d.roll(keys)
				if d.roll(9) < 4 {
					wantGet(t, l, key, m.get(key))
				} else {
					wantPut(t, l, key, m.put(key))
				}
				m.compare(t, l, keys)
				if t.Failed() {
					t.Fatalf("of %d slots and %d keys", slots, keys)
				}
			}
		}
	}
}
