package dump

import (
	"bytes"
	"slices"
	"testing"

	"replica/api"
	"replica/disk"
	"replica/meta"
	"replica/store"
)

// device: the numbers that a disk's form follows from.
type device struct{ blocks, size, slots int }

// devices: rings of one, two and four blocks, areas of one and of several.
var devices = []device{{8, 128, 2}, {1, 128, 1}, {5, 256, 4}, {21, 128, 5}, {64, 512, 8}, {65, 1024, 9}, {1025, 128, 16}, {3000, 128, 7}, {4096, 256, 13}}

func planOf(x device) api.Layout {
	l, _ := meta.Plan(x.blocks, x.size, x.slots)
	return l
}

func newDisk(blocks, size int) *disk.Disk {
	d, _ := disk.New(blocks, size)
	return d
}

// formatted gives a disk that a store laid out, marked, of the generation 4.
func formatted(t *testing.T, x device) *disk.Disk {
	t.Helper()
	d := newDisk(planOf(x).Total, x.size)
	if e := store.Format(d, x.blocks, x.slots, api.Gens{Current: 4}, 0, true); e != api.OK {
		t.Fatalf("Format: %d", e)
	}
	return d
}

// noised gives bytes of no meaning.
func noised(d *dice, size int) []byte {
	block := make([]byte, size)
	for i := range block {
		block[i] = byte(d.below(256))
	}
	return block
}

// used lets a store work on the disk for a while, so that metadata of every kind lie there.
func used(roll *dice, d *disk.Disk) {
	s, _, e := store.Open(d)
	if e != api.OK {
		return
	}
	blocks, size := s.Layout().Blocks, s.Layout().Size
	for range roll.below(40) {
		b := roll.below(blocks)
		switch roll.below(10) {
		case 0, 1, 2, 3:
			if s.Begin(b) == api.OK {
				s.Write(b, noised(roll, size))
				if roll.below(3) > 0 {
					s.End(b)
				}
			}
		case 4:
			s.Mark(b)
		case 5:
			for bit := range blocks {
				if roll.below(4) > 0 {
					s.Clean(bit)
				}
			}
		case 6:
			s.Checkpoint()
		case 7:
			s.SetGens(api.Gens{Current: roll.word(), Bitmap: roll.word() >> 40, Old1: uint64(roll.below(9)), Old2: roll.word()}, uint32(roll.below(16)))
		case 8:
			s.Flush()
		case 9:
			s.Apply(b, noised(roll, size))
		}
	}
}

// rolledDisk gives a disk of that form on which anything may lie: nothing, noise, a store's metadata, what is left of them. The same seed gives the same disk.
func rolledDisk(seed int, x device) *disk.Disk {
	roll := dice(seed)
	l := planOf(x)
	d := newDisk(l.Total, x.size)
	for b := range min(x.blocks, 9) {
		d.Through(b, noised(&roll, x.size))
	}
	if roll.below(8) > 0 {
		store.Format(d, x.blocks, x.slots, api.Gens{Current: roll.word()}, uint32(roll.below(16)), roll.below(2) == 0)
		used(&roll, d)
		if roll.below(2) == 0 {
			used(&roll, d)
		}
	}
	for range pick(&roll, 0, 0, 0, 1, 2) {
		block := pick(&roll, l.Bitmap, l.Log, l.Super, l.Super+1, l.Bitmap+roll.below(l.Total-l.Bitmap), roll.below(l.Total))
		data, err := d.Read(block)
		switch roll.below(6) {
		case 0:
			d.Spoil(block)
		case 1:
			d.Through(block, noised(&roll, x.size))
		case 2:
			d.Write(block, make([]byte, x.size))
		case 3:
			if err == nil {
				data[roll.below(x.size)] ^= 1 << roll.below(8)
				d.Through(block, data)
			}
		case 4:
			d.Through(l.Super+roll.below(2), otherSuper(&roll, x))
		case 5:
			m := rolledFor(&roll, x.blocks, x.size, x.slots)
			for _, w := range plainWrites(m, 0)[2:] {
				d.Through(w.block, w.data)
			}
		}
	}
	return d
}

// otherSuper gives a whole superblock that is of another device, or of this one.
func otherSuper(roll *dice, x device) []byte {
	blocks := max(1, min(x.blocks+pick(roll, -1, 0, 1), api.MaxBlocks))
	m := rolledFor(roll, blocks, x.size, x.slots)
	m.Super.Seq = uint64(1 + roll.below(20))
	block, _ := meta.Seal(m.Super)
	return block
}

// waiting: a block that has cached writes, and how many.
type waiting struct{ block, writes int }

// look: all that a disk tells, but for its Reads.
type look struct {
	image  []byte
	spoilt []int
	cached []waiting
	on     bool
	counts api.Counts
}

func looked(d *disk.Disk) look {
	total, _ := d.Geometry()
	l := look{image: d.Image(), on: d.On(), counts: d.Counts()}
	for block := range total {
		if _, err := d.Durable(block); err != nil {
			l.spoilt = append(l.spoilt, block)
		}
	}
	for _, block := range d.Cached() {
		l.cached = append(l.cached, waiting{block, d.Waiting(block)})
	}
	l.counts.Reads = 0
	return l
}

// behind gives what is to be seen behind those writes, with the power still on or not: each forgets what was cached of its block, and mends it.
func (l look) behind(size int, writes []wrote, on bool) look {
	written := func(block int) bool {
		return slices.ContainsFunc(writes, func(w wrote) bool { return w.block == block })
	}
	l.image, l.on = bytes.Clone(l.image), on
	for _, w := range writes {
		copy(l.image[w.block*size:], w.data)
	}
	l.spoilt = slices.DeleteFunc(slices.Clone(l.spoilt), written)
	l.cached = slices.DeleteFunc(slices.Clone(l.cached), func(c waiting) bool { return written(c.block) })
	l.counts.Through += len(writes)
	return l
}

func (l look) same(other look) bool {
	return bytes.Equal(l.image, other.image) && slices.Equal(l.spoilt, other.spoilt) && slices.Equal(l.cached, other.cached) && l.on == other.on && l.counts == other.counts
}

func wantTaken(t *testing.T, d *disk.Disk, want api.Dump) {
	t.Helper()
	if m, e := Take(d); !sameDump(m, want) || e != api.OK {
		t.Fatalf("P1901: Take: %+v, %d, want %+v", m, e, want)
	}
}

func wantNotTaken(t *testing.T, d *disk.Disk, want api.Errno) {
	t.Helper()
	if m, e := Take(d); !sameDump(m, api.Dump{}) || e != want {
		t.Fatalf("P1901: Take: %+v, %d, want %d", m, e, want)
	}
}

// P1901: example 6.
func TestTakeExamples(t *testing.T) {
	x := device{8, 128, 2}
	want := api.Dump{Super: api.Super{Seq: 1, Blocks: 8, Size: 128, Slots: 2, Gens: api.Gens{Current: 4}}, Bits: []uint64{255}, Slots: []int{-1, -1}}
	wantTaken(t, formatted(t, x), want)
	for block, e := range map[int]api.Errno{8: api.ErrMedium, 9: api.ErrRecord, 10: api.ErrSuper} {
		d := formatted(t, x)
		d.Spoil(block)
		wantNotTaken(t, d, e)
	}
	for _, block := range []int{0, 7, 11} {
		d := formatted(t, x)
		d.Spoil(block)
		wantTaken(t, d, want)
	}
	wantNotTaken(t, nil, api.ErrArg)
}

// P1901: what cannot be taken, by the first thing that is wrong.
func TestTakeRefused(t *testing.T) {
	x := device{8, 128, 2}
	l := planOf(x)
	for _, blocks := range []int{1, 2, 3, 12, 8192} {
		wantNotTaken(t, newDisk(blocks, 128), api.ErrSuper)
	}
	one := newDisk(1, 128)
	seal, _ := meta.Seal(example().Super)
	one.Through(0, seal)
	wantNotTaken(t, one, api.ErrField) // slot 1 holds it, slot 0 is not there
	for _, total := range []int{2, 11, 13, 4106} {
		for slot := range 2 {
			d := newDisk(total, 128)
			d.Through(total-2+slot, seal)
			wantNotTaken(t, d, api.ErrField)
		}
	}
	d := formatted(t, x)
	d.Spoil(l.Bitmap)
	d.Spoil(l.Log)
	wantNotTaken(t, d, api.ErrMedium)
	d.Spoil(l.Super)
	wantNotTaken(t, d, api.ErrSuper)
	d.Fuse(0)
	wantNotTaken(t, d, api.ErrSuper) // the power is still on
	d.Flush()
	wantNotTaken(t, d, api.ErrPower)
	one.Fuse(0)
	one.Flush()
	wantNotTaken(t, one, api.ErrPower)
	d.Crash(nil)
	wantNotTaken(t, d, api.ErrSuper)
	d = formatted(t, x)
	d.Through(l.Log, noised(new(dice), 128))
	wantNotTaken(t, d, api.ErrRecord)
}

// P1901: of an area of several blocks each is asked, of a ring too.
func TestTakeEachBlock(t *testing.T) {
	for _, x := range devices {
		l := planOf(x)
		for block := l.Bitmap; block < l.Super; block++ {
			d := formatted(t, x)
			d.Spoil(block)
			want := api.ErrMedium
			if block >= l.Log {
				want = api.ErrRecord
			}
			wantNotTaken(t, d, want)
			d.Write(block, make([]byte, x.size)) // cached bytes can be read
			m, e := Take(d)
			if e != api.OK || m.Super.Blocks != x.blocks {
				t.Errorf("P1901: Take behind a write to the spoilt block %d: %d", block, e)
			}
		}
	}
}

// P1901: the newer superblock is taken, with its Mark as it lies there; bits behind the last block do not count.
func TestTakeAsItLies(t *testing.T) {
	d := formatted(t, device{8, 128, 2})
	s, _, _ := store.Open(d)
	s.Clean(0)
	s.Clean(5)
	if s.Checkpoint() != api.OK || s.SetGens(api.Gens{Current: 9, Old2: 3}, 5) != api.OK || s.Begin(6) != api.OK {
		t.Fatal("the store refuses")
	}
	s.Mark(0)
	want := api.Dump{Super: api.Super{Seq: 3, Blocks: 8, Size: 128, Slots: 2, Gens: api.Gens{Current: 9, Old2: 3}, Flags: 5, Mark: 1}, Bits: []uint64{0xdf}, Slots: []int{1, -1}}
	wantTaken(t, d, want)
	area, _ := d.Read(8)
	area[1], area[127] = 255, 255
	d.Through(8, area)
	wantTaken(t, d, want)
}

// P1901: disks on which anything lies, held against the chapter's words; nothing but the Reads changes, the fuse neither.
func TestTakeAgainstModel(t *testing.T) {
	seen := map[api.Errno]int{}
	for seed := range 1500 {
		x := devices[seed%len(devices)]
		d := rolledDisk(seed, x)
		want, err := plainTake(d)
		seen[err]++
		before := looked(d)
		d.Fuse(2)
		m, e := Take(d)
		if !sameDump(m, want) || e != err {
			t.Fatalf("P1901: seed %d: Take: %+v, %d, want %+v, %d", seed, m, e, want, err)
		}
		if !looked(d).same(before) {
			t.Fatalf("P1901: seed %d: Take changed the disk", seed)
		}
		if d.Flush() != nil || d.Flush() != nil || d.Flush() == nil {
			t.Fatalf("P1901: seed %d: Take changed the fuse", seed)
		}
		wantNotTaken(t, d, api.ErrPower)
	}
	for _, e := range []api.Errno{api.OK, api.ErrSuper, api.ErrField, api.ErrMedium, api.ErrRecord} {
		if seen[e] < 15 {
			t.Errorf("%d disks answered %d", seen[e], e)
		}
	}
}

// slotOf tells which slot P1905 calls s.
func slotOf(d *disk.Disk) int {
	total, _ := d.Geometry()
	first, _ := d.Read(total - 2)
	second, _ := d.Read(total - 1)
	if _, slot, e := meta.Choose(first, second); e == api.OK {
		return slot
	}
	return 1
}

// P1905: example 7, and its order of errors.
func TestRestoreRefused(t *testing.T) {
	bad := example()
	bad.Super.Seq = 0
	for _, m := range []api.Dump{example(), bad, {}} {
		if e := Restore(nil, m); e != api.ErrArg {
			t.Errorf("P1905: Restore(nil): %d", e)
		}
	}
	wrong := [][2]int{{13, 128}, {11, 128}, {1, 128}, {2, 128}, {12, 256}, {12, 1024}, {8192, 128}}
	for _, off := range []bool{false, true} {
		for _, x := range append(wrong, [2]int{12, 128}) {
			for i, spoil := range append(slices.Clone(breaks), func(m *api.Dump) {}) {
				m := example()
				spoil(&m)
				d := newDisk(x[0], x[1])
				if d.Fuse(-1); off {
					d.Fuse(0)
					d.Flush()
				}
				want := api.ErrField
				switch {
				case i < len(breaks):
				case x != [2]int{12, 128}:
					want = api.ErrSize
				case off:
					want = api.ErrPower
				default:
					want = api.OK
				}
				before := looked(d)
				if e := Restore(d, m); e != want {
					t.Fatalf("P1905: Restore(%v, %+v), off %v: %d, want %d", x, m, off, e, want)
				}
				if want != api.OK && !looked(d).same(before) {
					t.Fatalf("P1905: Restore(%v, %+v), off %v, changed the disk", x, m, off)
				}
			}
		}
	}
}

// P1905: example 7: a device of another form whose disk is as great: 8 blocks with 2 slots, 7 with 8, 5 with 16.
func TestRestoreOtherForm(t *testing.T) {
	roll := dice(17)
	for _, x := range []device{{8, 128, 2}, {8, 128, 4}, {7, 128, 8}, {5, 128, 16}} {
		if planOf(x).Total != 12 {
			t.Fatalf("%v takes %d blocks", x, planOf(x).Total)
		}
		d := formatted(t, device{8, 128, 2})
		m := rolledFor(&roll, x.blocks, x.size, x.slots)
		if e := Restore(d, m); e != api.OK {
			t.Errorf("P1905: Restore of %v: %d", x, e)
		}
		wantTaken(t, d, m)
	}
	d := newDisk(12, 128)
	if e := Restore(d, example()); e != api.OK || d.Counts().Through != 5 || d.Counts().Writes != 0 || d.Counts().Flushes != 0 {
		t.Errorf("P1905: Restore: %d, %+v", e, d.Counts())
	}
	wantTaken(t, d, example())
}

// P1905: whichever slot holds the superblock goes last; with the same number in both, slot 0 holds it.
func TestRestoreSlots(t *testing.T) {
	seal := func(seq uint64) []byte {
		m := example()
		m.Super.Seq, m.Super.Gens.Old1 = seq, seq
		block, _ := meta.Seal(m.Super)
		return block
	}
	same := example()
	same.Super.Seq, same.Super.Gens.Old2 = 5, 77
	other, _ := meta.Seal(same.Super)
	for i, x := range []struct {
		first, second []byte
		left          int // the slot that is whole behind one write
	}{{seal(5), seal(6), 1}, {seal(6), seal(5), 0}, {seal(5), other, 0}, {seal(1), make([]byte, 128), 0}, {make([]byte, 128), seal(1), 1}} {
		d := newDisk(12, 128)
		d.Through(10, x.first)
		d.Through(11, x.second)
		before, _ := Take(d)
		d.Fuse(1)
		if e := Restore(d, example()); e != api.ErrPower {
			t.Errorf("P1905: Restore %d with a fuse of 1: %d", i, e)
		}
		d.Crash(nil)
		wantTaken(t, d, before)
		gone, _ := d.Durable(11 - x.left)
		if !bytes.Equal(gone, make([]byte, 128)) {
			t.Errorf("P1905: Restore %d with a fuse of 1 left slot %d", i, 1-x.left)
		}
		d.Fuse(2)
		Restore(d, example())
		d.Crash(nil)
		wantNotTaken(t, d, api.ErrSuper)
	}
}

// P1905, P1906: what is written, in which order, held against the chapter's words at every step at which the power may fail.
func TestRestoreSteps(t *testing.T) {
	fuses := 0
	for seed := range 220 {
		x := devices[seed%len(devices)]
		roll := dice(seed * 31)
		m := rolledFor(&roll, x.blocks, x.size, x.slots)
		d := rolledDisk(seed, x)
		writes := plainWrites(m, slotOf(d))
		for fuse := range len(writes) + 1 {
			fuses++
			d := rolledDisk(seed, x)
			before := looked(d)
			want := api.ErrPower
			if fuse == len(writes) {
				want = api.OK
			}
			d.Fuse(fuse)
			if e := Restore(d, m); e != want {
				t.Fatalf("P1905: seed %d, fuse %d: Restore: %d, want %d", seed, fuse, e, want)
			}
			if !looked(d).same(before.behind(x.size, writes[:fuse], want == api.OK)) {
				t.Fatalf("P1905, P1906: seed %d, fuse %d: another disk is left", seed, fuse)
			}
		}
	}
	if fuses < 1000 {
		t.Errorf("%d fuses", fuses)
	}
}

// P1906: the ring for every number of slots and any of them free; Replay tells them (by Take), and the number R comes next (by the record that a store writes).
func TestRing(t *testing.T) {
	roll := dice(19)
	for slots := 1; slots <= 16; slots++ {
		for range 60 {
			x := device{pick(&roll, 1, 8, 70), 128, slots}
			m := rolledFor(&roll, x.blocks, x.size, x.slots)
			l := planOf(x)
			d := newDisk(l.Total, x.size)
			if e := Restore(d, m); e != api.OK {
				t.Fatalf("P1905: Restore: %d", e)
			}
			for i := range l.LogBlocks {
				block, _ := d.Durable(l.Log + i)
				if !bytes.Equal(block, plainRecord(m, i)) {
					t.Fatalf("P1906: block %d of the ring of %v: %x, want %x", i, m.Slots, block, plainRecord(m, i))
				}
			}
			wantTaken(t, d, m)
			wantNext(t, d, l, m)
		}
	}
}

// wantNext: the store's next record has the number behind the ring's.
func wantNext(t *testing.T, d *disk.Disk, l api.Layout, m api.Dump) {
	t.Helper()
	number := byte(l.LogBlocks)
	if slices.Max(m.Slots) < 0 {
		number = 0
	}
	s, _, e := store.Open(d)
	if e != api.OK || s.Begin(0) != api.OK {
		t.Fatalf("P1907: Open: %d", e)
	}
	block, _ := d.Durable(l.Log + int(number)%l.LogBlocks)
	if string(block[:4]) != "actl" || !bytes.Equal(block[4:8], []byte{0, 0, 0, number}) {
		t.Fatalf("P1906: the record behind the ring of %v: %x", m.Slots, block[:12])
	}
}
