package dump

import (
	"math"
	"slices"
	"sync"
	"testing"

	"replica/api"
)

var odd = []int{math.MinInt, math.MinInt32, -129, -2, -1, 0, 1, 2, 3, 4, 5, 8, 16, 17, 63, 64, 65, 128, 129, 256, 512, 1000, 1024, 1 << 12, 1<<12 + 1, 1 << 16, 1 << 31, 1 << 32, 1<<32 + 8, math.MaxInt}

// oddDump gives a dump with any numbers and lists.
func oddDump(d *dice) api.Dump {
	m := example()
	if d.below(2) == 0 {
		m = rolledFor(d, 1+d.below(70), 128, 1+d.below(5))
	}
	s := &m.Super
	for range d.below(3) {
		*pick(d, &s.Blocks, &s.Size, &s.Slots, &s.Mark) = pick(d, odd...)
	}
	switch d.below(6) {
	case 0:
		s.Seq = pick[uint64](d, 0, 1, 1<<62, 1<<62+1, math.MaxUint64)
	case 1:
		s.Flags = pick[uint32](d, 15, 16, 31, math.MaxUint32)
	case 2:
		m.Bits = make([]uint64, d.below(5))
	case 3:
		m.Bits = slices.Repeat([]uint64{math.MaxUint64}, d.below(66))
	case 4:
		m.Slots = make([]int, d.below(20))
		for slot := range m.Slots {
			m.Slots[slot] = pick(d, odd...)
		}
	}
	return m
}

// noise: bytes of every kind, more often those that the texts are made of.
func noise(d *dice, length int) string {
	const usual = "replica-meta 1; seq 7; # \n\t\r 0-9 slots - bits; 00ff"
	b := make([]byte, length)
	for i := range b {
		if b[i] = byte(d.below(256)); d.below(4) > 0 {
			b[i] = usual[d.below(len(usual))]
		}
	}
	return string(b)
}

// roomy gives m with lists that have spare room, and a call that tells whether lists or room were written to.
func roomy(m api.Dump) (api.Dump, func() bool) {
	bits, slots := append(slices.Clone(m.Bits), 71, 72, 73), append(slices.Clone(m.Slots), 74, 75, 76)
	given := m
	given.Bits, given.Slots = bits[:len(m.Bits)], slots[:len(m.Slots)]
	return given, func() bool {
		return !slices.Equal(bits, append(slices.Clone(m.Bits), 71, 72, 73)) || !slices.Equal(slots, append(slices.Clone(m.Slots), 74, 75, 76))
	}
}

// scrawl writes over the lists of a dump and their spare room: whoever keeps the same memory is found out by what it tells next.
func scrawl(m api.Dump) {
	bits, slots := m.Bits[:cap(m.Bits)], m.Slots[:cap(m.Slots)]
	for i := range bits {
		bits[i] = 0xdead
	}
	for i := range slots {
		slots[i] = -99
	}
}

// P1, P2, P1908: whatever is given no call panics; a dump's validity alone decides what Print and Restore answer; asked again, in another order and by many at once, each call answers the same.
func TestNoise(t *testing.T) {
	d := dice(29)
	type given struct {
		text string
		m    api.Dump
	}
	type told struct {
		m       api.Dump
		place   int
		text    string
		numbers [3]api.Errno
	}
	asked := func(g given) (x told) {
		x.m, x.place, x.numbers[0] = Parse(g.text)
		x.text, x.numbers[1] = Print(g.m)
		x.numbers[2] = Restore(newDisk(12, 128), g.m)
		return x
	}
	var all []given
	var first []told
	for i := range 6000 {
		g := given{noise(&d, d.below(120)), oddDump(&d)}
		switch i % 3 {
		case 0:
			g.text = printed[:d.below(len(printed)+1)] + g.text
		case 1:
			g.text, _ = plainPrint(g.m)
		}
		all = append(all, g)
		first = append(first, asked(g))
		if want, e := plainPrint(g.m); first[i].text != want || first[i].numbers[1] != e || (first[i].numbers[2] == api.ErrField) != (e != api.OK) {
			t.Fatalf("P1902, P1905: Print(%+v): %q, %d; Restore %d", g.m, first[i].text, first[i].numbers[1], first[i].numbers[2])
		}
		wantAlike(t, g.text, map[string]int{})
	}
	var many sync.WaitGroup
	for range 4 {
		many.Go(func() {
			for i := len(all) - 1; i >= 0; i-- {
				x := asked(all[i])
				if !sameDump(x.m, first[i].m) || x.place != first[i].place || x.text != first[i].text || x.numbers != first[i].numbers {
					t.Errorf("P2: asked again of %q, %+v the answers are others", all[i].text, all[i].m)
				}
			}
		})
	}
	many.Wait()
}

// P1908: what is handed in is not changed, nor what lies behind its end.
func TestHandedIn(t *testing.T) {
	d := dice(31)
	for i := range 1500 {
		m := rolledDump(&d)
		if i%3 == 0 {
			m = oddDump(&d)
		}
		given, changed := roomy(m)
		Print(given)
		if x := (device{m.Super.Blocks, m.Super.Size, m.Super.Slots}); planOf(x).Total > 0 {
			Restore(newDisk(planOf(x).Total, x.size), given)
		}
		if changed() || given.Super != m.Super {
			t.Fatalf("P1908: %+v was changed", m)
		}
	}
}

// P1908: nothing is kept: a disk is not touched by what becomes of the dump that was laid onto it, nor by what becomes of an answer.
func TestNewMemory(t *testing.T) {
	d := dice(37)
	for range 300 {
		m := rolledDump(&d)
		x := device{m.Super.Blocks, m.Super.Size, m.Super.Slots}
		on := newDisk(planOf(x).Total, x.size)
		given := copied(m)
		if e := Restore(on, given); e != api.OK {
			t.Fatalf("P1905: Restore: %d", e)
		}
		scrawl(given)
		one, _ := Take(on)
		two, _ := Take(on)
		scrawl(one)
		if !sameDump(two, m) {
			t.Fatalf("P1908: two answers of Take share memory: %+v", two)
		}
		wantTaken(t, on, m)
		text, _ := Print(m)
		one, _, _ = Parse(text)
		two, _, _ = Parse(text)
		scrawl(one)
		if !sameDump(two, m) {
			t.Fatalf("P1908: two answers of Parse share memory: %+v", two)
		}
	}
}
