package inspect

import (
	"slices"
	"strings"
	"testing"

	"replica/api"
	"replica/disk"
	"replica/dump"
	"replica/meta"
)

// P2002: of several errors the one that is named first.
func TestLookErrorsInOrder(t *testing.T) {
	c := resource()
	wrong := with(func(c *api.Config) { c.Name = "" })
	zeroes, _ := disk.New(planOf(c).Total, c.Size)
	lookRefused(t, "no disk, no resource", nil, wrong, api.ErrArg)
	lookRefused(t, "no superblock, no resource", zeroes, wrong, api.ErrValue)
	lookRefused(t, "no resource", clean(t, c), api.Config{}, api.ErrValue)
	lookRefused(t, "no superblock, of another size", zeroes, sized(8, 256, 2), api.ErrSuper)

	d := clean(t, c)
	other := clean(t, sized(16, 128, 2))
	forecastRefused(t, "the first's error", zeroes, nil, c, api.ErrSuper)
	forecastRefused(t, "the first's error", nil, zeroes, c, api.ErrArg)
	forecastRefused(t, "the first's error", other, zeroes, c, api.ErrField)
	forecastRefused(t, "the first's error", zeroes, other, c, api.ErrSuper)
	forecastRefused(t, "the second's error", d, nil, c, api.ErrArg)
	forecastRefused(t, "the second's error", d, other, c, api.ErrField)
	forecastRefused(t, "no resource", d, d, wrong, api.ErrValue)
	forecastRefused(t, "no disk, no resource", nil, d, wrong, api.ErrArg)
	forecastRefused(t, "no disk, no resource", d, nil, wrong, api.ErrValue)
}

// P2002: each number of the device is held against the resource's.
func TestLookAnotherDevice(t *testing.T) {
	for _, c := range []api.Config{sized(7, 128, 2), sized(9, 128, 2), sized(8, 256, 2), sized(8, 128, 1), sized(8, 128, 3), sized(8, 128, 5)} {
		lookRefused(t, "another resource", clean(t, resource()), c, api.ErrField)
		lookRefused(t, "another disk", clean(t, c), resource(), api.ErrField)
	}
	// A disk may have as many blocks as the resource wants, and yet be shared out in another way.
	lookRefused(t, "as many blocks", clean(t, sized(1024, 128, 9)), sized(1026, 128, 5), api.ErrField)
}

// sealed gives a clean disk with that superblock in slot 0 alone.
func sealed(t *testing.T, c api.Config, s api.Super) *disk.Disk {
	t.Helper()
	d := clean(t, c)
	block, e := meta.Seal(s)
	if e != api.OK {
		t.Fatalf("Seal: %v", e)
	}
	d.Through(planOf(c).Super, block)
	return d
}

// P2002: the disk that a superblock speaks of is another one.
func TestLookSuperOfAnotherDisk(t *testing.T) {
	c := resource()
	s := superOf(7, api.Gens{Current: 1024}, 1, 8)
	one, _ := disk.New(1, 128)
	lookRefused(t, "one block", one, c, api.ErrSuper)
	block, _ := meta.Seal(s)
	one.Through(0, block)
	lookRefused(t, "one block that is a superblock", one, c, api.ErrField)
	for _, total := range []int{2, 11, 13, 8192} {
		d, _ := disk.New(total, 128)
		lookRefused(t, "zeroes", d, c, api.ErrSuper)
		for slot := range 2 {
			d, _ := disk.New(total, 128)
			d.Through(total-2+slot, block)
			lookRefused(t, "of another number of blocks", d, c, api.ErrField)
		}
	}
	for _, size := range []int{256, 512, 1024} {
		d, _ := disk.New(12, size)
		d.Through(10, slices.Concat(block, make([]byte, size-128)))
		lookRefused(t, "of another size", d, c, api.ErrSuper)
	}
}

// P2002: at its last number a superblock is not written any more, so no node that was primary starts.
func TestLookLastNumber(t *testing.T) {
	c := resource()
	const last = 1 << 62
	g := api.Gens{Current: 1024}
	for flags := range uint32(16) {
		d := sealed(t, c, superOf(last, g, flags, 8))
		if flags&api.FlagPrimary != 0 {
			lookRefused(t, "primary, the last number", d, c, api.ErrFull)
			lookRefused(t, "primary, the last number, of another resource", d, sized(9, 128, 2), api.ErrField)
			d = sealed(t, c, superOf(last-1, g, flags, 8))
			looks(t, "primary, the last number but one", d, c, api.Dump{Super: superOf(last, g, flags&^4|8, 8), Bits: []uint64{0}, Slots: list{-1, -1}})
			continue
		}
		looks(t, "the last number", d, c, api.Dump{Super: superOf(last, g, flags, 8), Bits: []uint64{0}, Slots: list{-1, -1}})
	}
}

// P2002: the newer slot that is whole is chosen.
func TestLookSlots(t *testing.T) {
	c := resource()
	d := clean(t, c)
	s := opened(t, d)
	s.SetGens(api.Gens{Current: 72, Bitmap: 1024}, 3)
	s.SetGens(api.Gens{Current: 88, Bitmap: 1024}, 1) // in slot 0
	want := api.Dump{Super: superOf(3, api.Gens{Current: 88, Bitmap: 1024}, 1, 8), Bits: []uint64{0}, Slots: list{-1, -1}}
	looks(t, "two slots", d, c, want)
	d.Spoil(10)
	want.Super = superOf(2, api.Gens{Current: 72, Bitmap: 1024}, 3, 8)
	looks(t, "the newer slot is unreadable", d, c, want)
	d.Spoil(11)
	lookRefused(t, "no slot is readable", d, c, api.ErrSuper)
}

// P2002: the bitmap behind the recovery, and its Mark.
func TestLookBits(t *testing.T) {
	c := sized(21, 128, 5) // six extents, the last of one block; a ring of two blocks
	l := planOf(c)
	full := []uint64{1<<21 - 1}
	super := api.Super{Seq: 1, Blocks: 21, Size: 128, Slots: 5, Gens: api.Gens{Current: 1024}, Flags: 1, Mark: 21}
	free := list{-1, -1, -1, -1, -1}
	hot := func(flags uint32) *disk.Disk {
		d := formatted(t, c, super.Gens, flags, 9)
		s := opened(t, d)
		for _, b := range []int{20, 6, 13} {
			s.Begin(b)
		}
		s.End(6)
		return d
	}
	marked := super
	marked.Mark = 9
	looks(t, "marked", formatted(t, c, super.Gens, 1, 9, 12), c, api.Dump{Super: marked, Bits: []uint64{1<<9 | 1<<12}, Slots: free})
	looks(t, "hot, of a secondary", hot(1), c, api.Dump{Super: marked, Bits: []uint64{1 << 9}, Slots: list{5, 1, 3, -1, -1}})
	crashed := marked
	crashed.Seq, crashed.Flags, crashed.Mark = 2, 9, 4
	looks(t, "hot, of a primary", hot(5), c, api.Dump{Super: crashed, Bits: []uint64{1<<20 | 0xf0 | 1<<9 | 0xf000}, Slots: list{5, 1, 3, -1, -1}})
	for flags, super := range map[uint32]api.Super{1: marked, 5: crashed} {
		super.Mark = 0
		d := hot(flags)
		d.Spoil(l.Bitmap)
		looks(t, "the bitmap is unreadable", d, c, api.Dump{Super: super, Bits: full, Slots: list{5, 1, 3, -1, -1}})
		for k := range l.LogBlocks {
			d := hot(flags)
			d.Spoil(l.Log + k)
			looks(t, "the ring is unreadable", d, c, api.Dump{Super: super, Bits: full, Slots: free})
			d = hot(flags)
			d.Through(l.Log+k, fill(c, 1))
			looks(t, "the ring is broken", d, c, api.Dump{Super: super, Bits: full, Slots: free})
		}
	}
}

// P2002: the Mark of the superblock stays where it is the lesser one.
func TestLookMark(t *testing.T) {
	c := resource()
	for mark := range 9 {
		for least := range 9 {
			d := sealed(t, c, superOf(1, api.Gens{Current: 1024}, 1, mark))
			bits := []uint64{0}
			if least < 8 {
				bits[0] = 1<<least | 1<<7
			}
			area, _ := meta.Pack(8, bits, 128)
			d.Through(planOf(c).Bitmap, area[0])
			looks(t, "a Mark", d, c, api.Dump{Super: superOf(1, api.Gens{Current: 1024}, 1, min(mark, least)), Bits: bits, Slots: list{-1, -1}})
		}
	}
}

// P2002: a bitmap of several blocks, and bits behind its end.
func TestLookLargeDevice(t *testing.T) {
	c := sized(3000, 128, 16)
	l := planOf(c)
	d := formatted(t, c, api.Gens{Current: 1024}, 1, 0, 63, 64, 1023, 1024, 2999)
	m, e := Look(d, c)
	if want, _ := plainLook(d, c); e != api.OK || !sameDump(m, want) || len(m.Bits) != 47 || m.Bits[0] != 1|1<<63 || m.Bits[46] != 1<<(2999-46*64) {
		t.Errorf("P2002: %+v, %v", m, e)
	}
	block, _ := d.Durable(l.Bitmap + 2)
	block[127] = 0xff // of no block of the device
	d.Through(l.Bitmap+2, block)
	if again, e := Look(d, c); e != api.OK || !sameDump(again, m) {
		t.Errorf("P2002: with bits behind the end: %+v, %v", again, e)
	}
	d.Spoil(l.Bitmap + 1)
	if m, e := Look(d, c); e != api.OK || countSet(m.Bits) != 3000 || m.Super.Mark != 0 {
		t.Errorf("P2002: a block of the bitmap is unreadable: %+v, %v", m, e)
	}
}

// P2002: where a Look is refused so is a text of it; where not, a dump can be printed and laid onto a disk.
func TestLookIsADump(t *testing.T) {
	told := 0
	for seed := range 400 {
		c := rolledResource(seed)
		m, e := Look(rolledDisk(seed, c), c)
		if e != api.OK {
			continue
		}
		told++
		text, e := dump.Print(m)
		if e != api.OK || !strings.HasPrefix(text, "replica-meta 1;\n") {
			t.Fatalf("P2002: seed %d: %+v is no dump: %v", seed, m, e)
		}
		d, _ := disk.New(planOf(c).Total, c.Size)
		if e := dump.Restore(d, m); e != api.OK {
			t.Fatalf("P2002: seed %d: %+v is not restored: %v", seed, m, e)
		}
		if again, e := Look(d, c); e != api.OK || !sameDump(again, m) {
			t.Fatalf("P2002: seed %d: a Look of what a Look told: %+v, %v, want %+v", seed, again, e, m)
		}
	}
	if told < 150 {
		t.Errorf("%d disks were looked at", told)
	}
}
