package actlog

import (
	"slices"

	"replica/api"
)

// Lru: a fixed number of slots that hold keys, with references; the key that has been without a reference for longest goes first. NewLru makes it.
type Lru[K comparable] struct {
	slots int
	place map[K]int // the slot of each key
	keys  []K       // by slot; a slot once taken never becomes free again, so the free ones are those behind the end
	refs  []int     // by slot
	idle  []int     // the slots of the keys without a reference, the one that has been without for longest first
}

// NewLru gives an Lru of that many slots, all free.
func NewLru[K comparable](slots int) (*Lru[K], api.Errno) {
	if !validSlots(slots) {
		return nil, api.ErrArg
	}
	return &Lru[K]{slots: slots, place: map[K]int{}}, api.OK
}

// Get takes a reference to key: the slot that it is in; whether it had to be put in; if a key went for it, that key and true.
func (l *Lru[K]) Get(key K) (slot int, fresh bool, old K, gone bool, err api.Errno) {
	slot, in := l.place[key]
	switch {
	case in:
		l.take(slot)
		return slot, false, old, false, api.OK
	case len(l.keys) < l.slots:
		slot = l.add(key)
	case len(l.idle) > 0:
		slot, gone = l.idle[0], true
		old = l.replace(slot, key)
	default:
		return 0, false, old, false, api.ErrStarved
	}
	return slot, true, old, gone, api.OK
}

// take adds a reference to the key in a slot.
func (l *Lru[K]) take(slot int) {
	if l.refs[slot] == 0 {
		l.wake(slot)
	}
	l.refs[slot]++
}

func (l *Lru[K]) wake(slot int) {
	at := slices.Index(l.idle, slot)
	l.idle = slices.Delete(l.idle, at, at+1)
}

// add puts key into the first free slot, with one reference.
func (l *Lru[K]) add(key K) int {
	slot := len(l.keys)
	l.place[key] = slot
	l.keys = append(l.keys, key)
	l.refs = append(l.refs, 1)
	return slot
}

// replace puts key, with one reference, into the slot of a key without one; it gives the key that went.
func (l *Lru[K]) replace(slot int, key K) K {
	old := l.keys[slot]
	delete(l.place, old)
	l.place[key] = slot
	l.keys[slot] = key
	l.take(slot)
	return old
}

// Put gives a reference back.
func (l *Lru[K]) Put(key K) api.Errno {
	slot, in := l.place[key]
	if !in || l.refs[slot] == 0 {
		return api.ErrCold
	}
	l.refs[slot]--
	if l.refs[slot] == 0 {
		l.idle = append(l.idle, slot)
	}
	return api.OK
}

// Refs tells the references of key (0 too if it is in no slot).
func (l *Lru[K]) Refs(key K) int {
	slot, in := l.place[key]
	if !in {
		return 0
	}
	return l.refs[slot]
}

// Slot tells the slot that key is in; -1: none.
func (l *Lru[K]) Slot(key K) int {
	slot, in := l.place[key]
	if !in {
		return -1
	}
	return slot
}

// Keys tells the keys, the one that would go first first; referenced ones behind, by slot.
func (l *Lru[K]) Keys() []K {
	var keys []K
	for _, slot := range l.idle {
		keys = append(keys, l.keys[slot])
	}
	for slot, key := range l.keys {
		if l.refs[slot] > 0 {
			keys = append(keys, key)
		}
	}
	return keys
}
