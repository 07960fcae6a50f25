package store

import (
	"bytes"
	"math"
	"slices"
	"testing"

	"replica/api"
	"replica/disk"
	"replica/meta"
)

func fill(c byte) []byte { return bytes.Repeat([]byte{c}, 128) }

// wantDown: what a store that is down answers, whatever it is asked.
func wantDown(t *testing.T, s *Store, l api.Layout) {
	t.Helper()
	words := make([]uint64, (l.Blocks+63)/64)
	data := make([]byte, l.Size)
	for _, block := range []int{math.MinInt, -1, 0, l.Blocks - 1, l.Blocks, math.MaxInt} {
		read, e1 := s.Read(block)
		fresh, e2 := s.Mark(block)
		was, e3 := s.Clean(block)
		n1, e4 := s.MarkWords(words)
		n2, e5 := s.MarkWords(nil)
		if len(read) != 0 || fresh || was || n1 != 0 || n2 != 0 {
			t.Fatalf("down: Read, Mark, Clean, MarkWords tell something")
		}
		all := []api.Errno{e1, e2, e3, e4, e5, s.Begin(block), s.End(block), s.Write(block, data), s.Write(block, nil), s.Apply(block, data), s.Apply(block, nil),
			s.Through(block, data), s.Through(block, nil), s.Flush(), s.Checkpoint(), s.SetGens(api.Gens{}, 0), s.SetGens(api.Gens{}, 16)}
		for i, e := range all {
			if e != api.ErrPower {
				t.Fatalf("down: call %d of block %d: %v", i, block, e)
			}
		}
		if s.Waiting(block) != 0 || s.Next(block) != -1 {
			t.Fatalf("down: Waiting %d, Next %d", s.Waiting(block), s.Next(block))
		}
	}
	if s.Layout() != (api.Layout{}) || s.Super() != (api.Super{}) || s.Marked() != 0 || s.Records() != 0 {
		t.Fatalf("down: %+v, %+v, Marked %d, Records %d", s.Layout(), s.Super(), s.Marked(), s.Records())
	}
	if len(s.Bits()) != 0 || len(s.Stored()) != 0 || len(s.Hot()) != 0 || len(s.Covered()) != 0 {
		t.Fatalf("down: %v, %v, %v, %v", s.Bits(), s.Stored(), s.Hot(), s.Covered())
	}
}

// wrote: one block that was written past the cache.
type wrote struct {
	block int
	data  []byte
}

// laidBy gives the disk's durable bytes behind the first of some writes.
func laidBy(before []byte, size int, writes []wrote) []byte {
	image := bytes.Clone(before)
	for _, w := range writes {
		copy(image[w.block*size:], w.data)
	}
	return image
}

func sealOf(t *testing.T, s api.Super) []byte {
	t.Helper()
	block, e := meta.Seal(s)
	if e != api.OK {
		t.Fatalf("Seal(%+v): %v", s, e)
	}
	return block
}

func want(t *testing.T, what string, got, want api.Errno) {
	t.Helper()
	if got != want {
		t.Errorf("%s: %v, want %v", what, got, want)
	}
}

func must(t *testing.T, what string, e api.Errno) {
	t.Helper()
	if e != api.OK {
		t.Fatalf("%s: %v", what, e)
	}
}

// formatted gives a disk of that layout; the data blocks hold 'd'.
func formatted(t *testing.T, blocks, size, slots int, flags uint32, marked bool) (*disk.Disk, api.Layout) {
	t.Helper()
	l, e := meta.Plan(blocks, size, slots)
	must(t, "Plan", e)
	d, _ := disk.New(l.Total, size)
	for block := range blocks {
		d.Through(block, bytes.Repeat([]byte{'d'}, size))
	}
	must(t, "P1101: Format", Format(d, blocks, slots, api.Gens{Current: 4}, flags, marked))
	return d, l
}

func opened(t *testing.T, d *disk.Disk) (*Store, api.Recovery) {
	t.Helper()
	s, r, e := Open(d)
	if s == nil || e != api.OK {
		t.Fatalf("P1102: Open: %v", e)
	}
	return s, r
}

func wantNone(t *testing.T, what string, d *disk.Disk, wanted api.Errno) {
	t.Helper()
	before, counts := d.Image(), d.Counts()
	s, r, e := Open(d)
	if s != nil || r.Slot != 0 || r.Crashed || len(r.Hot) != 0 || r.AllBits || e != wanted {
		t.Errorf("P1102: %s: Open: %+v, %v, want %v", what, r, e, wanted)
	}
	if now := d.Counts(); !bytes.Equal(d.Image(), before) || now.Through != counts.Through {
		t.Errorf("P1102: %s: Open wrote", what)
	}
}

func wantMarks(t *testing.T, what string, s *Store, bits, stored []uint64, covered ...int) {
	t.Helper()
	if !slices.Equal(s.Bits(), bits) || !slices.Equal(s.Stored(), stored) || !slices.Equal(s.Covered(), covered) {
		t.Errorf("%s: Bits %x, Stored %x, Covered %v, want %x, %x, %v", what, s.Bits(), s.Stored(), s.Covered(), bits, stored, covered)
	}
}

func wantRecovery(t *testing.T, what string, r api.Recovery, slot int, crashed bool, all bool, hot ...int) {
	t.Helper()
	if r.Slot != slot || r.Crashed != crashed || r.AllBits != all || !slices.Equal(r.Hot, hot) {
		t.Errorf("P1102: %s: %+v, want slot %d, crashed %v, all %v, hot %v", what, r, slot, crashed, all, hot)
	}
}

// P1101: what is written, in its order: behind each step the power goes, and what lies there then is seen.
func TestFormatOrder(t *testing.T) {
	gens := api.Gens{Current: 5, Bitmap: 6, Old1: 7, Old2: 8}
	for _, g := range [][3]int{{4, 128, 1}, {3, 256, 5}, {64, 128, 8}, {70, 1024, 9}, {1024, 128, 4}, {1025, 128, 5}, {4096, 128, 16}} {
		blocks, size, slots := g[0], g[1], g[2]
		l, _ := meta.Plan(blocks, size, slots)
		for _, marked := range []bool{false, true} {
			super := api.Super{Seq: 1, Blocks: blocks, Size: size, Slots: slots, Gens: gens, Flags: 9, Mark: blocks}
			bits := make([]bool, blocks)
			if marked {
				super.Mark = 0
				for b := range bits {
					bits[b] = true
				}
			}
			zeroes := make([]byte, size)
			writes := []wrote{{l.Super, zeroes}, {l.Super + 1, zeroes}}
			for k := range l.BitmapBlocks {
				writes = append(writes, wrote{l.Bitmap + k, areaBlock(bits, k, size)})
			}
			for k := range l.LogBlocks {
				writes = append(writes, wrote{l.Log + k, zeroes})
			}
			writes = append(writes, wrote{l.Super, sealOf(t, super)})
			for cut := range len(writes) + 1 {
				formatCut(t, l, gens, marked, writes, cut)
			}
		}
	}
}

func formatCut(t *testing.T, l api.Layout, gens api.Gens, marked bool, writes []wrote, cut int) {
	t.Helper()
	image := bytes.Repeat([]byte("some bytes "), l.Total*l.Size/11+1)[:l.Total*l.Size]
	d, _ := disk.Load(l.Total, l.Size, image)
	d.Write(0, bytes.Repeat([]byte{'x'}, l.Size))
	d.Write(l.Blocks-1, bytes.Repeat([]byte{'y'}, l.Size))
	d.Write(l.Blocks-1, bytes.Repeat([]byte{'z'}, l.Size))
	cached, waiting := d.Cached(), d.Waiting(l.Blocks-1)
	d.Fuse(cut)
	wanted := api.ErrPower
	if cut == len(writes) {
		wanted = api.OK
	}
	want(t, "P1101: Format with a fuse", Format(d, l.Blocks, l.Slots, gens, 9, marked), wanted)
	if !bytes.Equal(d.Image(), laidBy(image, l.Size, writes[:cut])) {
		t.Fatalf("P1101: %+v, marked %v: behind %d steps other bytes lie there", l, marked, cut)
	}
	if c := d.Counts(); c.Through != cut || c.Writes != 3 || c.Flushes != 0 || !slices.Equal(d.Cached(), cached) || d.Waiting(l.Blocks-1) != waiting {
		t.Fatalf("P1101: %+v, the cached are %v", c, d.Cached())
	}
}

// P1101: what is refused, in its order, and that nothing is written by it.
func TestFormatRefused(t *testing.T) {
	d, _ := disk.New(8, 128)
	for _, c := range []struct {
		blocks, slots int
		flags         uint32
		e             api.Errno
	}{
		{0, 1, 0, api.ErrArg}, {-1, 1, 0, api.ErrArg}, {math.MinInt, 1, 0, api.ErrArg}, {4097, 1, 0, api.ErrArg}, {math.MaxInt, 1, 0, api.ErrArg},
		{4, 0, 0, api.ErrArg}, {4, -1, 0, api.ErrArg}, {4, 17, 0, api.ErrArg}, {4, math.MaxInt, 0, api.ErrArg},
		{4, 1, 16, api.ErrArg}, {4, 1, 17, api.ErrArg}, {4, 1, math.MaxUint32, api.ErrArg}, {5, 1, 16, api.ErrArg},
		{5, 1, 0, api.ErrSize}, {3, 1, 0, api.ErrSize}, {4, 5, 15, api.ErrSize}, {4, 16, 0, api.ErrSize}, {2, 16, 0, api.ErrSize}, {4096, 1, 0, api.ErrSize}, {1, 1, 0, api.ErrSize},
		{4, 4, 15, api.OK}, {3, 5, 0, api.OK}, {1, 16, 0, api.OK}, {4, 1, 15, api.OK},
	} {
		before := d.Counts().Through
		want(t, "P1101: Format", Format(d, c.blocks, c.slots, api.Gens{}, c.flags, true), c.e)
		if (d.Counts().Through == before) != (c.e != api.OK) {
			t.Errorf("P1101: Format(%d, %d, %d) wrote %d blocks", c.blocks, c.slots, c.flags, d.Counts().Through-before)
		}
	}
	d.Fuse(0)
	d.Flush()
	want(t, "P1101: ErrArg ahead of the power", Format(d, 0, 1, api.Gens{}, 0, true), api.ErrArg)
	want(t, "P1101: ErrSize ahead of the power", Format(d, 5, 1, api.Gens{}, 0, true), api.ErrSize)
	want(t, "P1101: without power", Format(d, 4, 1, api.Gens{}, 0, true), api.ErrPower)
}

// P1101: spoilt blocks of the metadata are whole again, spoilt data blocks stay.
func TestFormatSpoilt(t *testing.T) {
	d, l := formatted(t, 12, 128, 6, 1, true)
	for block := range l.Total {
		d.Spoil(block)
	}
	must(t, "P1101: Format", Format(d, 12, 6, api.Gens{}, 1, false))
	for block := range l.Total {
		if _, err := d.Durable(block); (err != nil) != (block < l.Blocks) {
			t.Errorf("P1101: block %d: %v", block, err)
		}
	}
	s, r := opened(t, d)
	wantRecovery(t, "a disk that was spoilt whole", r, 0, false, false)
	if s.Marked() != 0 {
		t.Errorf("P1101: Marked %d", s.Marked())
	}
}

// P1101, P1102, P1103, P1116: what a formatted disk opens as.
func TestOpenFormatted(t *testing.T) {
	for _, g := range [][3]int{{1, 128, 1}, {4, 128, 1}, {64, 256, 16}, {65, 512, 5}, {1025, 128, 2}, {4096, 1024, 9}} {
		for flags := range uint32(16) {
			for _, marked := range []bool{false, true} {
				d, l := formatted(t, g[0], g[1], g[2], flags, marked)
				s, r := opened(t, d)
				wantRecovery(t, "formatted", r, 0, flags&4 != 0, false)
				super := api.Super{Seq: 1, Blocks: g[0], Size: g[1], Slots: g[2], Gens: api.Gens{Current: 4}, Flags: flags, Mark: g[0]}
				count := 0
				if marked {
					super.Mark, count = 0, g[0]
				}
				if s.Super() != super || s.Layout() != l || s.Marked() != count || len(s.Hot()) != 0 || s.Records() != 0 {
					t.Errorf("P1103: %+v, %+v, Marked %d, want %+v, %+v, %d", s.Super(), s.Layout(), s.Marked(), super, l, count)
				}
				if len(s.Covered()) != (count+3)/4 {
					t.Errorf("P1118: Covered %v", s.Covered())
				}
			}
		}
	}
}

// P1102: disks on which there is no store.
func TestOpenRefused(t *testing.T) {
	for _, blocks := range []int{1, 2, 3, 8, 8192} {
		d, _ := disk.New(blocks, 128)
		wantNone(t, "zeroes", d, api.ErrSuper)
		d.Spoil(blocks - 1)
		wantNone(t, "the last block spoilt", d, api.ErrSuper)
		d.Fuse(0)
		d.Flush()
		wantNone(t, "without power", d, api.ErrPower)
	}
	d, l := formatted(t, 4, 128, 1, 1, false)
	block, _ := d.Durable(l.Super)
	one, _ := disk.Load(1, 128, block)
	wantNone(t, "a disk of one block with a superblock", one, api.ErrField)
	for _, total := range []int{2, 7, 9, 16} {
		for slot := range 2 {
			other, _ := disk.New(total, 128)
			other.Through(total-2+slot, block)
			wantNone(t, "another Total", other, api.ErrField)
		}
	}
	d.Spoil(l.Super)
	wantNone(t, "the one superblock spoilt", d, api.ErrSuper)
	d.Through(l.Super, make([]byte, 128))
	wantNone(t, "the one superblock gone", d, api.ErrSuper)
	d.Through(l.Super+1, block)
	_, r := opened(t, d)
	wantRecovery(t, "in slot 1", r, 1, false, false)
}

// P1102: the newer of two superblocks, the one that is whole; a cached superblock is what a read tells.
func TestOpenSlots(t *testing.T) {
	super := api.Super{Blocks: 4, Size: 128, Slots: 1, Mark: 4}
	for _, c := range []struct {
		first, second uint64
		slot          int
	}{{1, 2, 1}, {2, 1, 0}, {3, 3, 0}, {1 << 62, 1<<62 - 1, 0}, {1<<62 - 1, 1 << 62, 1}, {5, 0, 0}, {0, 5, 1}} {
		d, l := formatted(t, 4, 128, 1, 1, false)
		for slot, seq := range []uint64{c.first, c.second} {
			super.Seq, super.Gens.Current = seq, uint64(slot)
			if seq == 0 {
				d.Spoil(l.Super + slot)
				continue
			}
			d.Through(l.Super+slot, sealOf(t, super))
		}
		s, r := opened(t, d)
		if r.Slot != c.slot || s.Super().Gens.Current != uint64(c.slot) || s.Super().Seq != max(c.first, c.second) {
			t.Errorf("P1102: %+v: %+v, %+v", c, r, s.Super())
		}
	}
}

// P1102: what a recovery writes, in its order, and that a recovery that the power stops is made good by the next.
func TestOpenOrder(t *testing.T) {
	l, _ := meta.Plan(2100, 128, 9)
	for _, c := range []struct {
		area, ring []int // spoilt
		hot        []int // blocks that are begun
		first      int   // a block that is marked ahead of it
		writes     []int // blocks that are written
		flags      uint32
	}{
		{nil, nil, nil, 0, nil, 4},
		{nil, nil, []int{0}, 1000, []int{l.Bitmap}, 4},
		{nil, nil, []int{2099, 1023}, 1000, []int{l.Bitmap, l.Bitmap + 2}, 4},
		{nil, nil, []int{2099, 1023}, 1000, nil, 1},
		{[]int{1}, nil, []int{2099}, 1000, []int{l.Bitmap, l.Bitmap + 1, l.Bitmap + 2}, 4},
		{[]int{2, 0}, nil, nil, 1000, []int{l.Bitmap, l.Bitmap + 1, l.Bitmap + 2}, 1},
		{nil, []int{2}, []int{7}, 1000, []int{l.Bitmap, l.Bitmap + 1, l.Bitmap + 2, l.Log, l.Log + 1, l.Log + 2, l.Log + 3}, 1},
		{[]int{0, 1, 2}, []int{0, 1, 2, 3}, []int{7}, 1000, []int{l.Bitmap, l.Bitmap + 1, l.Bitmap + 2, l.Log, l.Log + 1, l.Log + 2, l.Log + 3}, 5},
	} {
		for cut := range len(c.writes) + 1 {
			d, _ := formatted(t, 2100, 128, 9, c.flags, false)
			s, _ := opened(t, d)
			s.Mark(c.first)
			for _, block := range c.hot {
				must(t, "P1107", s.Begin(block))
			}
			for _, k := range c.area {
				d.Spoil(l.Bitmap + k)
			}
			for _, k := range c.ring {
				d.Spoil(l.Log + k)
			}
			all := len(c.area)+len(c.ring) > 0
			openCut(t, d, l, c.writes, all, cut)
		}
	}
}

// openCut opens with a fuse of cut steps: the blocks ahead of the cut are as behind the whole, the others as ahead of it.
func openCut(t *testing.T, d *disk.Disk, l api.Layout, writes []int, all bool, cut int) {
	t.Helper()
	twin, _ := disk.Load(l.Total, l.Size, d.Image())
	for block := range l.Total {
		if _, err := d.Durable(block); err != nil {
			twin.Spoil(block)
		}
	}
	before := d.Counts().Through
	if _, r := opened(t, d); r.AllBits != all || d.Counts().Through-before != len(writes) {
		t.Fatalf("P1102: %+v, %d writes, want %v", r, d.Counts().Through-before, writes)
	}
	start, whole := twin.Image(), d.Image()
	wanted := bytes.Clone(start)
	for _, block := range writes[:cut] {
		copy(wanted[block*l.Size:], whole[block*l.Size:(block+1)*l.Size])
	}
	twin.Fuse(cut)
	s, r, e := Open(twin)
	if (e == api.OK) != (cut == len(writes)) || (s == nil) != (e != api.OK) || !bytes.Equal(twin.Image(), wanted) {
		t.Fatalf("P1102: with %d of the steps %v: %+v, %v", cut, writes, r, e)
	}
	if e != api.OK && (e != api.ErrPower || r.Slot != 0 || r.Crashed || r.AllBits || len(r.Hot) != 0) {
		t.Fatalf("P1102: with %d of the steps %v: %+v, %v", cut, writes, r, e)
	}
	twin.Crash(nil)
	left := false
	for block := range l.Total {
		_, err := twin.Durable(block)
		left = left || err != nil
	}
	_, again := opened(t, twin)
	if again.AllBits != left {
		t.Fatalf("P1102: with %d of the steps %v, opened again: %+v", cut, writes, again)
	}
	// Where the last unreadable block was written ahead of others nothing tells the next recovery to mark all: so the order has it.
	marksLaid := cut == len(writes) || writes[cut] >= l.Log
	if (left || !all || marksLaid) && !bytes.Equal(twin.Image(), whole) {
		t.Fatalf("P1102: with %d of the steps %v, opened again: other bytes", cut, writes)
	}
}

// P1102: bits behind the last block are none, and are no reason to write.
func TestOpenStrayBits(t *testing.T) {
	d, l := formatted(t, 10, 128, 1, 4, false)
	d.Through(l.Bitmap, bytes.Repeat([]byte{0xff}, 128))
	before := d.Counts().Through
	s, r := opened(t, d)
	wantRecovery(t, "stray bits", r, 0, true, false)
	wantMarks(t, "P1102: stray bits", s, []uint64{0x3ff}, []uint64{0x3ff}, 0, 1, 2)
	if d.Counts().Through != before {
		t.Errorf("P1102: Open wrote %d blocks", d.Counts().Through-before)
	}
	s.Clean(3)
	must(t, "P1114", s.Checkpoint())
	if block, _ := d.Durable(l.Bitmap); !bytes.Equal(block, append([]byte{0xf7, 3}, make([]byte, 126)...)) {
		t.Errorf("P1114: % x", block)
	}
}

// P1102: an extent that stands in two slots is told once; the last extent may have fewer blocks.
func TestOpenTwoSlots(t *testing.T) {
	d, l := formatted(t, 9, 128, 3, 4, false)
	s, _ := opened(t, d)
	must(t, "P1107", s.Begin(8))
	must(t, "P1107", s.Begin(0))
	block, _ := d.Durable(l.Log)
	// The context names slots 1, 2, 0, 1: extent 2 comes into slot 2 beside slot 0, the sum is made anew.
	block[35] = 2
	block[32], block[33], block[34] = 0, 0, 0
	resum(block)
	d.Through(l.Log, block)
	s, r := opened(t, d)
	wantRecovery(t, "an extent in two slots", r, 0, true, false, 0, 2)
	wantMarks(t, "P1102: the last extent", s, []uint64{0x10f}, []uint64{0x10f}, 0, 2)
}
