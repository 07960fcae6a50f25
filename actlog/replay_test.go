package actlog

import (
	"bytes"
	"encoding/binary"
	"math"
	"slices"
	"testing"

	"replica/api"
)

func wantReplay(t *testing.T, what string, slots, extents int, ring [][]byte, want []int, number uint32) {
	t.Helper()
	row, n, e := Replay(slots, extents, ring)
	if !slices.Equal(row, want) || n != number || e != api.OK {
		t.Errorf("%s: %v, %d, %d, want %v, %d", what, row, n, e, want, number)
	}
}

func wantRefused(t *testing.T, what string, slots, extents int, ring [][]byte, want api.Errno) {
	t.Helper()
	if row, n, e := Replay(slots, extents, ring); row != nil || n != 0 || e != want {
		t.Errorf("%s: %v, %d, %d, want %d", what, row, n, e, want)
	}
}

func blankRing(places int, size int) [][]byte {
	ring := make([][]byte, places)
	for i := range ring {
		ring[i] = make([]byte, size)
	}
	return ring
}

// P411.
func TestRing(t *testing.T) {
	for slots, want := range []int{0, 1, 1, 1, 1, 2, 2, 2, 2, 4, 4, 4, 4, 4, 4, 4, 4, 0} {
		if Ring(slots) != want {
			t.Errorf("Ring(%d): %d, want %d", slots, Ring(slots), want)
		}
	}
	for _, slots := range wrongSlots {
		if Ring(slots) != 0 {
			t.Errorf("Ring(%d): %d", slots, Ring(slots))
		}
	}
}

// P412: the errors' order: each call has all the faults behind the one that it is to tell.
func TestReplayArguments(t *testing.T) {
	for _, slots := range wrongSlots {
		wantRefused(t, "slots", slots, 10, [][]byte{nil}, api.ErrArg)
		wantRefused(t, "slots, no place", slots, 10, nil, api.ErrArg)
	}
	for _, extents := range wrongExtents {
		wantRefused(t, "extents", 1, extents, [][]byte{nil, nil}, api.ErrArg)
	}
	for slots := api.MinSlots; slots <= api.MaxSlots; slots++ {
		for places := range 6 {
			want := api.ErrSize
			if places == Ring(slots) {
				want = api.ErrRecord
			}
			wantRefused(t, "places", slots, 10, make([][]byte, places), want)
		}
	}
	wantReplay(t, "all extents", 1, 1024, blankRing(1, 128), []int{-1}, 0)
}

// P412, rule 1; the fourth rule at each size.
func TestReplayLengths(t *testing.T) {
	for _, size := range []int{1, 4, 44, 48, 64, 127, 129, 192, 384, 1023, 1025, 2048} {
		wantRefused(t, "no block size", 1, 10, blankRing(1, size), api.ErrRecord)
		if size >= 48 {
			wantRefused(t, "no block size", 1, 10, [][]byte{firstOfOne.block(size)}, api.ErrRecord)
		}
	}
	wantRefused(t, "an empty place", 1, 10, [][]byte{{}}, api.ErrRecord)
	for slots := api.MinSlots; slots <= api.MaxSlots; slots++ {
		for _, size := range []int{128, 256, 512, 1024} {
			free := slices.Repeat([]int{-1}, slots)
			wantReplay(t, "blank", slots, 10, blankRing(Ring(slots), size), free, 0)
			for place := range Ring(slots) {
				ring := blankRing(Ring(slots), size)
				ring[place] = nil
				wantRefused(t, "a nil place", slots, 10, ring, api.ErrRecord)
				if len(ring) > 1 {
					ring[place] = make([]byte, 1152-size)
					wantRefused(t, "another length", slots, 10, ring, api.ErrRecord)
					ring[place] = make([]byte, size^384)
					wantRefused(t, "another length", slots, 10, ring, api.ErrRecord)
				}
			}
		}
	}
}

// The fifth example of the chapter; P412, rule 2: the letters, the zeroes and the sum.
func TestReplayOfOneRecord(t *testing.T) {
	for _, size := range []int{128, 256, 512, 1024} {
		block := firstOfOne.block(size)
		wantReplay(t, "the record", 1, 10, [][]byte{block}, []int{3}, 7)
		wantReplay(t, "just enough extents", 1, 4, [][]byte{block}, []int{3}, 7)
		wantRefused(t, "too few extents", 1, 3, [][]byte{block}, api.ErrRecord)
		wantRefused(t, "other slots", 2, 10, [][]byte{block}, api.ErrRecord)
		for i := range 8 * size {
			bad := slices.Clone(block)
			bad[i/8] ^= 1 << (i % 8)
			wantRefused(t, "a bit turned", 1, 10, [][]byte{bad}, api.ErrRecord)
			if at := i / 8; at < 4 || at >= 44 && at < size-4 {
				wantRefused(t, "the letters or the zeroes", 1, 10, [][]byte{summed(bad)}, api.ErrRecord)
			}
		}
	}
	dim := make([]byte, 128)
	dim[127] = 1
	wantRefused(t, "zeroes but for the last byte", 1, 10, [][]byte{dim}, api.ErrRecord)
	wantRefused(t, "zeroes with their sum", 1, 10, [][]byte{summed(make([]byte, 128))}, api.ErrRecord)
}

// P412, rule 2: the fields, one by one, at logs of one place.
func TestReplayFields(t *testing.T) {
	two := fields{number: 5, age: 3, slots: 2, slot: 1, extent: 9, old: 4, context: [4]uint32{none, 9, none, 9}}
	three := fields{number: 5, age: 2, slots: 3, slot: 2, extent: 9, old: none, start: 2, context: [4]uint32{9, 0, 1, 9}}
	old := fields{number: 5, age: 65535, slots: 3, slot: 0, extent: 7, old: none, start: 1, context: [4]uint32{1, 2, 7, 1}}
	four := fields{number: none, age: 65534, slots: 4, slot: 3, extent: 0, old: 9, context: [4]uint32{5, 5, 9, 0}}
	change := func(f fields, to func(f *fields)) fields {
		to(&f)
		return f
	}
	for _, x := range []struct {
		what  string
		slots int
		f     fields
		want  []int // nil: refused
	}{
		{"two slots", 2, two, []int{-1, 9}},
		{"three slots", 3, three, []int{0, 1, 9}},
		{"four slots; an extent in two of them; the one that went still there", 4, four, []int{5, 5, 9, 0}},
		{"a great age", 3, old, []int{7, 1, 2}},
		{"a great age, start 0", 3, change(old, func(f *fields) { f.start, f.context = 0, [4]uint32{7, 1, 2, 7} }), []int{7, 1, 2}},
		{"no extent went", 2, change(two, func(f *fields) { f.old = none }), []int{-1, 9}},
		{"the extent 0 went", 2, change(two, func(f *fields) { f.old = 0 }), []int{-1, 9}},
		{"the number of slots", 2, change(two, func(f *fields) { f.slots = 3 }), nil},
		{"no slots", 2, change(two, func(f *fields) { f.slots = 0 }), nil},
		{"the change's slot", 2, change(two, func(f *fields) { f.slot = 2 }), nil},
		{"the change's slot is NONE", 2, change(two, func(f *fields) { f.slot = none }), nil},
		{"the start", 2, change(two, func(f *fields) { f.start = 2 }), nil},
		{"the start is NONE", 2, change(two, func(f *fields) { f.start = none }), nil},
		{"the start at a great age", 3, change(old, func(f *fields) { f.start = 3 }), nil},
		{"the start is NONE at a great age", 3, change(old, func(f *fields) { f.start = none }), nil},
		{"a start of another age", 3, change(three, func(f *fields) { f.age = 3 }), nil},
		{"a start of a great age, but one less", 3, change(old, func(f *fields) { f.age = 65534 }), nil},
		{"the change's extent", 2, change(two, func(f *fields) { f.extent, f.context = 10, [4]uint32{none, 10, none, 10} }), nil},
		{"the change's extent is NONE", 2, change(two, func(f *fields) { f.extent, f.context = none, [4]uint32{none, none, none, none} }), nil},
		{"a great extent", 2, change(two, func(f *fields) { f.extent, f.context = none-1, [4]uint32{none, none - 1, none, none - 1} }), nil},
		{"the extent that went", 2, change(two, func(f *fields) { f.old = 10 }), nil},
		{"the extent that went is great", 2, change(two, func(f *fields) { f.old = none - 1 }), nil},
		{"the extent that went is the change's", 2, change(two, func(f *fields) { f.old = 9 }), nil},
		{"a context's extent", 3, change(three, func(f *fields) { f.context[1] = 10 }), nil},
		{"a context's extent is great", 3, change(three, func(f *fields) { f.context[2] = 1 << 31 }), nil},
		{"a context's extent is free", 3, change(three, func(f *fields) { f.context[1] = none }), []int{-1, 1, 9}},
		{"the change's slot has another extent", 3, change(three, func(f *fields) { f.context[0] = 8 }), nil},
		{"the change's slot is free", 3, change(three, func(f *fields) { f.context[0] = none }), nil},
		{"the change's slot, named again, has another extent", 3, change(three, func(f *fields) { f.context[3] = 8 }), nil},
		{"the change's slot has another extent twice", 3, change(three, func(f *fields) { f.context[0], f.context[3] = 8, 8 }), nil},
		{"a slot has two extents", 2, change(two, func(f *fields) { f.context[0] = 1 }), nil},
		{"a slot has two extents", 3, change(old, func(f *fields) { f.context[3] = 5 }), nil},
		{"a slot has the same extent twice", 2, change(two, func(f *fields) { f.context[0], f.context[2] = 1, 1 }), []int{1, 9}},
		{"the last slot differs", 4, change(four, func(f *fields) { f.context[3] = 1 }), nil},
	} {
		ring := [][]byte{x.f.block(128)}
		if x.want == nil {
			wantRefused(t, x.what, x.slots, 10, ring, api.ErrRecord)
		} else {
			wantReplay(t, x.what, x.slots, 10, ring, x.want, x.f.number+1)
		}
	}
}

// runOf gives the records of one run, from a number on, as a log of nine slots and 20 extents writes them.
func runOf(t *testing.T, first uint32, count int) ([]fields, *Log) {
	t.Helper()
	l := madeLog(t, 9, 20, 128, first)
	var run []fields
	for i := range count {
		change := changeBy(l, i)
		wantFresh(t, l, i, change)
		wantEnd(t, l, i, api.OK)
		f := fields{number: first + uint32(i), age: uint16(i), slots: 9, slot: uint32(change.Slot), extent: uint32(i), old: uint32(change.Old), start: uint32(4 * i % 9)}
		for c := range f.context {
			f.context[c] = uint32(l.Slots()[(int(f.start)+c)%9])
		}
		run = append(run, f)
	}
	return run, l
}

// laid lays records at their places of a ring of four.
func laid(lists ...[]fields) [][]byte {
	ring := blankRing(4, 128)
	for _, list := range lists {
		for _, f := range list {
			ring[f.number%4] = f.block(128)
		}
	}
	return ring
}

// The sixth example of the chapter, and P412, rule 3: each record lies at its place.
func TestReplayPlaces(t *testing.T) {
	l := madeLog(t, 5, 100, 128, 0)
	var records [][]byte
	for i, extent := range []int{10, 20, 30} {
		records = append(records, wantFresh(t, l, extent, api.Change{Slot: i, Extent: extent, Old: -1}))
	}
	blank := make([]byte, 128)
	wantReplay(t, "example 6", 5, 100, [][]byte{records[2], records[1]}, []int{10, 20, 30, -1, -1}, 3)
	wantReplay(t, "the first alone", 5, 100, [][]byte{records[0], blank}, []int{10, -1, -1, -1, -1}, 1)
	wantReplay(t, "the first two", 5, 100, [][]byte{records[0], records[1]}, []int{10, 20, -1, -1, -1}, 2)
	wantRefused(t, "places changed about", 5, 100, [][]byte{records[1], records[2]}, api.ErrRecord)
	wantRefused(t, "the first, at the other place", 5, 100, [][]byte{blank, records[0]}, api.ErrRecord)
	wantRefused(t, "one of the run is missing", 5, 100, [][]byte{records[2], blank}, api.ErrRecord)
	wantRefused(t, "one of the run is missing", 5, 100, [][]byte{blank, records[1]}, api.ErrRecord)
}

// P412, rule 2: a change whose slot the context does not name.
func TestReplayChangeBesideContext(t *testing.T) {
	f := fields{number: 4, slots: 9, slot: 8, extent: 19, old: 2, context: [4]uint32{7, none, 7, 2}}
	wantReplay(t, "the last slot", 9, 20, laid([]fields{f}), []int{7, -1, 7, 2, -1, -1, -1, -1, 19}, 5)
	wantRefused(t, "one extent less", 9, 19, laid([]fields{f}), api.ErrRecord)
	f.extent = none
	wantRefused(t, "no extent", 9, 20, laid([]fields{f}), api.ErrRecord)
	f.extent, f.slot = 19, 9
	wantRefused(t, "no such slot", 9, 20, laid([]fields{f}), api.ErrRecord)
}

// P412, rules 5 and 6: which record is the newest, and what must lie ahead of it.
func TestReplayNewest(t *testing.T) {
	for _, first := range []uint32{0, 1, 2, 3, none, none - 2, none - 6} {
		run, l := runOf(t, first, 9)
		for count := 1; count <= len(run); count++ {
			row, log := runOf(t, first, count)
			wantReplay(t, "a run", 9, 20, laid(row), log.Slots(), first+uint32(count))
		}
		last := run[5:]
		wantReplay(t, "the last of a run", 9, 20, laid(last), l.Slots(), first+9)
		for gone := range last {
			part := slices.Delete(slices.Clone(last), gone, gone+1)
			wantRefused(t, "a blank in the run", 9, 20, laid(part), api.ErrRecord)
		}
		wantRefused(t, "a number two rounds back", 9, 20, laid(run[:1], last[:3]), api.ErrRecord)
		wantRefused(t, "a number a round back, behind a gap", 9, 20, laid(run[3:4], last[:2]), api.ErrRecord)
		far := slices.Clone(last)
		far[1].number += 4
		wantRefused(t, "a number of the next round", 9, 20, laid(far), api.ErrRecord)
		far = slices.Clone(last)
		far[0].number -= 4
		wantRefused(t, "a number of the round before", 9, 20, laid(far), api.ErrRecord)
	}
}

// P412, rule 6: what lies ahead of the run's first record is asked for its number alone.
func TestReplayOlderRuns(t *testing.T) {
	older, _ := runOf(t, 40, 9)
	for count := 1; count <= 6; count++ {
		run, l := runOf(t, 49, count)
		wantReplay(t, "a run behind a run", 9, 20, laid(older, run), l.Slots(), l.Number())
		for keep := range 4 {
			part := older[len(older)-keep:]
			wantReplay(t, "a run behind a short one", 9, 20, laid(part, run), l.Slots(), l.Number())
		}
	}
	run, l := runOf(t, 49, 2)
	strange := slices.Clone(older)
	strange[8].age, strange[8].start, strange[8].slot, strange[8].extent, strange[8].context = 65535, 8, 8, 3, [4]uint32{3, 1, 1, 1}
	wantReplay(t, "an older record of another age", 9, 20, laid(strange, run), l.Slots(), l.Number())
	strange[8].number += 4
	wantRefused(t, "an older record with another number", 9, 20, laid(strange, run[:1]), api.ErrRecord)
	wantRefused(t, "a gap ahead of an older run", 9, 20, laid(older[7:8], run), api.ErrRecord)
}

// aged gives a record of a log of nine slots, of which slot 1 alone has an extent.
func aged(number uint32, age uint16, start int) fields {
	f := fields{number: number, age: age, slots: 9, slot: 1, extent: 4, old: none, start: uint32(start)}
	for i := range f.context {
		f.context[i] = none
		if (start+i)%9 == 1 {
			f.context[i] = 4
		}
	}
	return f
}

// P412, rule 6: ages and starts that follow each other, or do not. (65533 times 4 is 7 modulo 9.)
func TestReplayAges(t *testing.T) {
	for _, x := range []struct {
		what   string
		ages   [4]uint16
		starts [4]int
		good   bool
	}{
		{"great ages", [4]uint16{65533, 65534, 65535, 65535}, [4]int{7, 2, 6, 1}, true},
		{"the greatest age alone", [4]uint16{65535, 65535, 65535, 65535}, [4]int{8, 3, 7, 2}, true},
		{"the greatest age follows another start", [4]uint16{65533, 65534, 65535, 65535}, [4]int{7, 2, 7, 2}, false},
		{"the last start does not follow", [4]uint16{65533, 65534, 65535, 65535}, [4]int{7, 2, 6, 6}, false},
		{"the first start is not followed", [4]uint16{65535, 65535, 65535, 65535}, [4]int{7, 3, 7, 2}, false},
		{"an age less at the end", [4]uint16{65535, 65535, 65535, 65534}, [4]int{8, 3, 7, 2}, false},
		{"an age twice", [4]uint16{65532, 65533, 65533, 65534}, [4]int{3, 7, 7, 2}, false},
		{"an age left out", [4]uint16{65531, 65532, 65534, 65535}, [4]int{8, 3, 2, 6}, false},
		{"small ages", [4]uint16{9, 10, 11, 12}, [4]int{0, 4, 8, 3}, true},
		{"an age that the ring does not reach back to", [4]uint16{18, 10, 11, 12}, [4]int{0, 4, 8, 3}, false},
		{"the ring's oldest record is of the run", [4]uint16{0, 1, 2, 3}, [4]int{0, 4, 8, 3}, true},
		{"the run's first record is the ring's oldest", [4]uint16{9, 1, 2, 3}, [4]int{0, 4, 8, 3}, false},
		{"an older run ahead", [4]uint16{9, 0, 1, 2}, [4]int{0, 0, 4, 8}, true},
		{"two older runs ahead", [4]uint16{9, 0, 0, 1}, [4]int{0, 0, 0, 4}, true},
		{"older runs of one record each", [4]uint16{0, 0, 0, 0}, [4]int{0, 0, 0, 0}, true},
		{"an older run's ages turned", [4]uint16{11, 10, 9, 0}, [4]int{8, 4, 0, 0}, true},
		{"no first record", [4]uint16{9, 2, 1, 1}, [4]int{0, 8, 4, 4}, false},
	} {
		var list []fields
		for i, age := range x.ages {
			list = append(list, aged(uint32(8+i), age, x.starts[i]))
		}
		if x.good {
			wantReplay(t, x.what, 9, 20, laid(list), []int{-1, 4, -1, -1, -1, -1, -1, -1, -1}, 12)
		} else {
			wantRefused(t, x.what, 9, 20, laid(list), api.ErrRecord)
		}
	}
}

// P401: what is handed in is not changed, nor its spare room, and is not kept; the answer is new memory.
func TestReplayShares(t *testing.T) {
	run, l := runOf(t, 3, 9)
	ring := laid(run)
	for i, block := range ring {
		ring[i] = append(slices.Clone(block), bytes.Repeat([]byte{0xa5}, 40)...)[:128]
	}
	ring = append(ring, []byte("spare"))[:4]
	var before [][]byte
	for _, block := range ring[:5] {
		before = append(before, slices.Clone(block[:cap(block)]))
	}
	row, _, _ := Replay(9, 20, ring)
	for i, block := range ring[:5] {
		if !bytes.Equal(block[:cap(block)], before[i]) {
			t.Errorf("place %d was changed", i)
		}
	}
	for i := range row[:cap(row)] {
		row[:cap(row)][i] = 77
	}
	wantReplay(t, "again", 9, 20, ring, l.Slots(), l.Number())
}

// P413: runs that follow each other, some of them without a record, across the numbers' wrap; Replay is asked ahead of each run and behind each record.
func TestRunsAndReplay(t *testing.T) {
	d := dice(413)
	for slots := api.MinSlots; slots <= api.MaxSlots; slots++ {
		for _, first := range []uint32{0, 1, 1 << 31, none - 30} {
			ring := blankRing(Ring(slots), 128)
			told, next, number := slices.Repeat([]int{-1}, slots), uint32(0), first
			for turn := range 12 {
				wantReplay(t, "ahead of the run's first record", slots, 40, ring, told, next)
				l := madeLog(t, slots, 40, 128, number)
				playRun(t, &d, l, ring, d.roll(2+3*turn))
				if l.Number() != number {
					told, next, number = l.Slots(), l.Number(), l.Number()
				}
				if t.Failed() {
					t.Fatalf("of %d slots, from %d on", slots, first)
				}
			}
		}
	}
}

// playRun begins and ends extents, lays each record at its place and replays the ring.
func playRun(t *testing.T, d *dice, l *Log, ring [][]byte, calls int) {
	t.Helper()
	for range calls {
		extent, number := d.roll(40), l.Number()
		if d.roll(3) == 0 {
			for _, hot := range l.Hot() {
				l.End(hot)
			}
		}
		_, record, _ := l.Begin(extent)
		if record != nil {
			ring[number%uint32(len(ring))] = record
			wantReplay(t, "behind a record", len(l.Slots()), 40, ring, l.Slots(), l.Number())
		}
	}
}

// reading: a place as the oracle reads it.
type reading struct {
	fields
	blank bool
}

func read(block []byte) (reading, bool) {
	if bytes.Equal(block, make([]byte, len(block))) {
		return reading{blank: true}, true
	}
	word := func(at int) uint32 { return binary.BigEndian.Uint32(block[at:]) }
	half := func(at int) uint16 { return binary.BigEndian.Uint16(block[at:]) }
	f := fields{word(4), half(8), half(10), word(12), word(16), word(20), word(24), [4]uint32{word(28), word(32), word(36), word(40)}}
	sum := bytes.Equal(summed(slices.Clone(block)), block)
	zeroes := bytes.Equal(block[44:len(block)-4], make([]byte, len(block)-48))
	return reading{fields: f}, string(block[:4]) == "actl" && zeroes && sum
}

// allowed tells rule 2 of P412, word by word.
func (f fields) allowed(slots, extents uint32) bool {
	if uint32(f.slots) != slots || f.slot >= slots || f.start >= slots || f.extent >= extents || f.old == f.extent {
		return false
	}
	if f.age != 65535 && f.start != 4*uint32(f.age)%slots {
		return false
	}
	for _, extent := range append(f.context[:], f.old) {
		if extent >= extents && extent != none {
			return false
		}
	}
	for i, one := range f.context {
		if (f.start+uint32(i))%slots == f.slot && one != f.extent {
			return false
		}
		for j, other := range f.context {
			if (i-j)%int(slots) == 0 && one != other {
				return false
			}
		}
	}
	return true
}

// oracle tells what Replay must answer to a ring of blocks of one size, by P412's rules one behind the other; first the rule that decided.
func oracle(slots, extents int, ring [][]byte) (int, []int, uint32, api.Errno) {
	held := make([]reading, len(ring))
	blanks := 0
	for i, block := range ring {
		r, ok := read(block)
		if !ok || !r.blank && !r.allowed(uint32(slots), uint32(extents)) {
			return 2, nil, 0, api.ErrRecord
		}
		if !r.blank && int(uint64(r.number)%uint64(len(ring))) != i {
			return 3, nil, 0, api.ErrRecord
		}
		if r.blank {
			blanks++
		}
		held[i] = r
	}
	row := slices.Repeat([]int{-1}, slots)
	if blanks == len(ring) {
		return 4, row, 0, api.OK
	}
	list := oracleNewest(held, len(ring)-blanks)
	if list == nil {
		return 5, nil, 0, api.ErrRecord
	}
	newest := list[len(list)-1]
	need := min(len(ring), int(newest.age)+1)
	if len(list) < need {
		return 6, nil, 0, api.ErrRecord
	}
	list = list[len(list)-need:]
	for i, f := range list[1:] {
		before := list[i]
		if f.age != before.age+1 && (f.age != 65535 || before.age != 65535) || f.age == 0 || f.start != (before.start+4)%uint32(slots) {
			return 6, nil, 0, api.ErrRecord
		}
	}
	for _, f := range list {
		for i, extent := range f.context {
			row[(int(f.start)+i)%slots] = int(int32(extent))
		}
		row[f.slot] = int(f.extent)
	}
	return 7, row, newest.number + 1, api.OK
}

// oracleNewest gives the records from the oldest to the newest, if their numbers follow each other, starting at some place; else nil.
func oracleNewest(held []reading, count int) []fields {
	for begin := range held {
		var list []fields
		for i := range count {
			r := held[(begin+i)%len(held)]
			if r.blank || i > 0 && r.number != list[i-1].number+1 {
				break
			}
			list = append(list, r.fields)
		}
		if len(list) == count {
			return list
		}
	}
	return nil
}

// spoil changes one thing of a ring.
func spoil(d *dice, ring [][]byte, slots int) {
	at := d.roll(len(ring))
	block := ring[at]
	word := func(place int, number uint32) { binary.BigEndian.PutUint32(block[place:], number) }
	small := func() uint32 { return uint32(d.roll(7) - 1) }
	switch d.roll(12) {
	case 0:
		ring[at] = make([]byte, len(block))
		return
	case 1:
		other := d.roll(len(ring))
		ring[at], ring[other] = ring[other], block
		return
	case 2:
		block[d.roll(len(block))] ^= 1 << d.roll(8)
		return
	case 3:
		word(4, binary.BigEndian.Uint32(block[4:])+uint32(d.roll(9)-4))
	case 4:
		word(4, binary.BigEndian.Uint32(block[4:])+uint32(len(ring)*(d.roll(3)-1)))
	case 5:
		age := d.roll(8) - 3
		binary.BigEndian.PutUint16(block[8:], uint16(age))
		word(24, uint32((4*age&0x3ffff)%slots))
	case 6:
		binary.BigEndian.PutUint16(block[8:], 65535)
	case 7:
		word(24, small())
	case 8:
		word(12, small())
	case 9:
		word(16, small())
	case 10:
		word(20, small())
	default:
		word(28+4*d.roll(4), small())
	}
	summed(block)
}

// P412: rings of runs of few extents, each with a few things changed, held against the oracle; every rule must have decided often.
func TestReplayAgainstOracle(t *testing.T) {
	d := dice(412)
	decided := [8]int{}
	for turn := range 60000 {
		slots := 1 + d.roll(16)
		ring := blankRing(Ring(slots), 128)
		number := uint32(d.roll(40) - 20)
		for range 1 + d.roll(2) {
			l := madeLog(t, slots, 5, 128, number)
			for range d.roll(12) {
				place := l.Number() % uint32(len(ring))
				extent := d.roll(5)
				if _, record, _ := l.Begin(extent); record != nil {
					ring[place] = record
				}
				l.End(extent)
			}
			number = l.Number()
		}
		for range d.roll(4) {
			spoil(&d, ring, slots)
		}
		rule, row, n, e := oracle(slots, 5, ring)
		decided[rule]++
		gotRow, gotN, gotE := Replay(slots, 5, ring)
		if !slices.Equal(gotRow, row) || gotN != n || gotE != e {
			t.Fatalf("turn %d, %d slots, by rule %d: %v, %d, %d, want %v, %d, %d", turn, slots, rule, gotRow, gotN, gotE, row, n, e)
		}
	}
	for _, rule := range []int{2, 3, 4, 5, 6, 7} {
		if decided[rule] < 500 {
			t.Errorf("rule %d decided %d times only: %v", rule, decided[rule], decided)
		}
	}
}

// P401: blocks of any bytes end, and are refused.
func TestReplayOfAnything(t *testing.T) {
	d := dice(401)
	for range 3000 {
		slots, extents := d.roll(20)-1, d.roll(1100)-20
		ring := make([][]byte, d.roll(6))
		for i := range ring {
			ring[i] = make([]byte, []int{0, 1, 127, 128, 128, 256, 1024, 1025}[d.roll(8)])
			for j := range ring[i] {
				ring[i][j] = byte(d.roll(256))
			}
			if d.roll(2) == 0 {
				copy(ring[i], "actl")
			}
		}
		if row, n, e := Replay(slots, extents, ring); row != nil || n != 0 || e == api.OK {
			t.Fatalf("%d slots, %d extents: %v, %d, %d", slots, extents, row, n, e)
		}
	}
	wantRefused(t, "great numbers", math.MaxInt, math.MaxInt, nil, api.ErrArg)
}
