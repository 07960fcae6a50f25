package store

import (
	"bytes"
	"math"
	"slices"
	"testing"

	"replica/actlog"
	"replica/api"
	"replica/disk"
	"replica/meta"
)

// small: example 1's disk, formatted and opened.
func small(t *testing.T, flags uint32, marked bool) (*disk.Disk, *Store) {
	t.Helper()
	d, _ := formatted(t, 4, 128, 1, flags, marked)
	s, _ := opened(t, d)
	return d, s
}

func wantRead(t *testing.T, what string, s *Store, block int, data []byte, wanted api.Errno) {
	t.Helper()
	if got, e := s.Read(block); e != wanted || !bytes.Equal(got, data) {
		t.Errorf("%s: Read(%d): %.8q, %v, want %.8q, %v", what, block, got, e, data, wanted)
	}
}

func wantMark(t *testing.T, s *Store, block int, fresh bool) {
	t.Helper()
	if got, e := s.Mark(block); got != fresh || e != api.OK {
		t.Errorf("P1111: Mark(%d): %v, %v, want %v", block, got, e, fresh)
	}
}

func wantClean(t *testing.T, s *Store, block int, was bool) {
	t.Helper()
	if got, e := s.Clean(block); got != was || e != api.OK {
		t.Errorf("P1113: Clean(%d): %v, %v, want %v", block, got, e, was)
	}
}

// P1105: the block is asked ahead of the data, both ahead of the cover.
func TestBlocksRefused(t *testing.T) {
	d, l := formatted(t, 6, 128, 1, 1, false)
	s, _ := opened(t, d)
	image, counts := d.Image(), d.Counts()
	for _, block := range []int{math.MinInt, -4, -1, 6, 7, l.Bitmap, l.Log, l.Super, l.Total, 1 << 32, math.MaxInt} {
		read, e1 := s.Read(block)
		fresh, e2 := s.Mark(block)
		was, e3 := s.Clean(block)
		if len(read) != 0 || fresh || was {
			t.Errorf("P1105: an answer beside an error")
		}
		for i, e := range []api.Errno{e1, e2, e3, s.Begin(block), s.End(block), s.Write(block, nil), s.Write(block, fill('x')), s.Apply(block, nil), s.Apply(block, fill('x')), s.Through(block, nil), s.Through(block, fill('x'))} {
			if e != api.ErrRange {
				t.Errorf("P1105: call %d of block %d: %v", i, block, e)
			}
		}
		if s.Waiting(block) != 0 {
			t.Errorf("P1110: Waiting(%d): %d", block, s.Waiting(block))
		}
	}
	for _, size := range []int{0, 1, 127, 129, 256} {
		data := make([]byte, size)
		for _, e := range []api.Errno{s.Write(0, data), s.Apply(5, data), s.Through(3, data)} {
			want(t, "P1105: a length", e, api.ErrSize)
		}
	}
	now := d.Counts()
	if !bytes.Equal(d.Image(), image) || now.Through != counts.Through || now.Writes != counts.Writes {
		t.Errorf("P1105: what was refused wrote")
	}
	wantMarks(t, "P1105", s, []uint64{0}, []uint64{0})
}

// P1106: the cache ahead of the medium, and what can't be read.
func TestRead(t *testing.T) {
	d, s := small(t, 1, false)
	wantRead(t, "P1106: durable", s, 3, fill('d'), api.OK)
	must(t, "P1109", s.Apply(3, fill('e')))
	wantRead(t, "P1106: cached", s, 3, fill('e'), api.OK)
	d.Spoil(3)
	wantRead(t, "P1106: cached and spoilt", s, 3, fill('e'), api.OK)
	d.Crash(nil)
	wantRead(t, "P1106: spoilt", s, 3, nil, api.ErrMedium)
	wantRead(t, "P1106: another", s, 2, fill('d'), api.OK)
	if s.Marked() != 0 || s.Layout().Blocks != 4 {
		t.Errorf("P1106: a store that met a spoilt block is not down")
	}
	must(t, "P1109", s.Through(3, fill('f')))
	wantRead(t, "P1106: whole again", s, 3, fill('f'), api.OK)
	d.Fuse(0)
	wantRead(t, "P1106: a fuse of 0 does nothing yet", s, 3, fill('f'), api.OK)
	d.Flush()
	wantRead(t, "P1106: without power", s, 3, nil, api.ErrPower)
	wantDown(t, s, api.Layout{Blocks: 4, Size: 128})
	d.Crash(nil)
	wantDown(t, s, api.Layout{Blocks: 4, Size: 128})
}

// P1107, P1117: each record lies, durably, at its place of the ring, behind a reopening too.
func TestBeginRing(t *testing.T) {
	for slots := 1; slots <= 16; slots++ {
		d, l := formatted(t, 100, 128, slots, 1, false)
		number := uint32(0)
		for range 3 {
			s, r := opened(t, d)
			wantRecovery(t, "not primary", r, 0, false, false)
			log, _ := actlog.New(slots, 25, 128, number)
			for i := range 11 {
				block := (i * 37) % 100
				_, record, _ := log.Begin(block / 4)
				writes := d.Counts().Through
				must(t, "P1107: Begin", s.Begin(block))
				place := l.Log + int(number)%actlog.Ring(slots)
				if got, _ := d.Durable(place); !bytes.Equal(got, record) || d.Counts().Through != writes+1 || s.Records() != i+1 {
					t.Fatalf("P1107: %d slots, record %d: % x, want % x; Records %d", slots, number, got, record, s.Records())
				}
				number++
				must(t, "P1107: Begin again", s.Begin(block))
				if d.Counts().Through != writes+1 || s.Records() != i+1 {
					t.Fatalf("P1107: a hot extent's Begin wrote")
				}
				if !slices.Equal(s.Hot(), log.Hot()) || !slices.Equal(s.Covered(), log.Hot()) {
					t.Fatalf("P1117, P1118: Hot %v, Covered %v, want %v", s.Hot(), s.Covered(), log.Hot())
				}
				log.End(block / 4)
				must(t, "P1108", s.End(block))
				must(t, "P1108", s.End(block))
				want(t, "P1108: no reference", s.End(block), api.ErrCold)
			}
		}
	}
}

// P1107, P1108: example 9, and that what is starved writes nothing.
func TestStarved(t *testing.T) {
	d, _ := formatted(t, 12, 128, 2, 1, false)
	s, _ := opened(t, d)
	must(t, "P1107", s.Begin(0))
	must(t, "P1107", s.Begin(4))
	image := d.Image()
	want(t, "P1107: no slot", s.Begin(8), api.ErrStarved)
	want(t, "P1108: not hot", s.End(8), api.ErrCold)
	if !bytes.Equal(d.Image(), image) || s.Records() != 2 || !slices.Equal(s.Hot(), []int{0, 1}) {
		t.Errorf("P1107: Records %d, Hot %v", s.Records(), s.Hot())
	}
	must(t, "P1107: a hot one all the same", s.Begin(3))
	must(t, "P1108", s.End(1))
	want(t, "P1107: extent 0 has one reference still", s.Begin(8), api.ErrStarved)
	must(t, "P1108", s.End(2))
	must(t, "P1107", s.Begin(8))
	if s.Records() != 3 || !slices.Equal(s.Hot(), []int{1, 2}) {
		t.Errorf("P1107: Records %d, Hot %v", s.Records(), s.Hot())
	}
}

// P1109, P1110: examples 2 and 3: who may write, and where it goes.
func TestWriteCover(t *testing.T) {
	d, l := formatted(t, 9, 128, 2, 1, false)
	s, _ := opened(t, d)
	for block := range 9 {
		want(t, "P1109: neither hot nor marked", s.Write(block, fill('A')), api.ErrCover)
	}
	must(t, "P1107", s.Begin(5))
	for block := range 9 {
		wanted := api.ErrCover
		if block/4 == 1 {
			wanted = api.OK
		}
		want(t, "P1109: extent 1 is hot", s.Write(block, fill('B')), wanted)
	}
	must(t, "P1108", s.End(5))
	want(t, "P1109: hot, without a reference", s.Write(5, fill('C')), api.ErrCover)
	wantMark(t, s, 8, true)
	must(t, "P1109: marked", s.Write(8, fill('D')))
	want(t, "P1109: its neighbour", s.Write(0, fill('D')), api.ErrCover)
	wantClean(t, s, 8, true)
	want(t, "P1109: stored as marked, not marked", s.Write(8, fill('E')), api.ErrCover)
	must(t, "P1109: Apply asks for no cover", s.Apply(8, fill('F')))
	must(t, "P1109: nor does Through", s.Through(0, fill('G')))
	if c := d.Counts(); c.Writes != 6 || s.Waiting(8) != 2 || s.Waiting(5) != 1 || s.Waiting(0) != 0 || s.Waiting(l.Log) != 0 {
		t.Errorf("P1109, P1110: %+v, Waiting %d, %d, %d", c, s.Waiting(8), s.Waiting(5), s.Waiting(0))
	}
	if b, _ := d.Durable(8); !bytes.Equal(b, fill('d')) {
		t.Errorf("P1109: Write went past the cache")
	}
	if b, _ := d.Durable(0); !bytes.Equal(b, fill('G')) {
		t.Errorf("P1109: Through did not")
	}
	must(t, "P1110", s.Flush())
	if b, _ := d.Durable(8); !bytes.Equal(b, fill('F')) || s.Waiting(8) != 0 || len(d.Cached()) != 0 || d.Counts().Flushes != 1 {
		t.Errorf("P1110: %.8q, Waiting %d", b, s.Waiting(8))
	}
	must(t, "P1110: with nothing cached", s.Flush())
	if d.Counts().Flushes != 2 {
		t.Errorf("P1110: %+v", d.Counts())
	}
}

// P1109: marks alone, as a recovery makes them, let a block be written.
func TestWriteAfterRecovery(t *testing.T) {
	d, s := small(t, api.FlagPrimary, false)
	must(t, "P1107", s.Begin(2))
	d.Crash(nil)
	s, _ = opened(t, d)
	must(t, "P1109", s.Write(0, fill('A')))
	if s.Records() != 0 || len(s.Hot()) != 0 {
		t.Errorf("P1117: Records %d, Hot %v", s.Records(), s.Hot())
	}
}

// P1111, P1112: what is written: the blocks of the area with a mark that is not stored, no others.
func TestMarkWrites(t *testing.T) {
	d, l := formatted(t, 2100, 128, 1, 1, false)
	s, _ := opened(t, d)
	words := func(blocks ...int) []uint64 {
		bits := make([]bool, 2100)
		for _, b := range blocks {
			bits[b] = true
		}
		return wordsOf(bits)
	}
	step := func(what string, writes int, act func()) {
		t.Helper()
		before := d.Counts().Through
		act()
		if got := d.Counts().Through - before; got != writes {
			t.Errorf("%s: %d writes, want %d", what, got, writes)
		}
		stored := s.Stored()
		bits := make([]bool, 2100)
		for b := range bits {
			bits[b] = has(stored, b)
		}
		for k := range l.BitmapBlocks {
			if got, _ := d.Durable(l.Bitmap + k); !bytes.Equal(got, areaBlock(bits, k, 128)) {
				t.Errorf("%s: block %d of the area is not what is stored", what, k)
			}
		}
	}
	many := func(fresh int, blocks ...int) func() {
		return func() {
			t.Helper()
			if n, e := s.MarkWords(words(blocks...)); n != fresh || e != api.OK {
				t.Errorf("P1112: MarkWords %v: %d, %v, want %d", blocks, n, e, fresh)
			}
		}
	}
	step("P1111", 1, func() { wantMark(t, s, 1500, true) })
	step("P1111: again", 0, func() { wantMark(t, s, 1500, false) })
	step("P1112: none", 0, many(0))
	step("P1112: stored ones", 0, many(0, 1500))
	step("P1112: in two blocks of three", 2, many(2, 3, 1500, 2099))
	step("P1113: Clean", 0, func() { wantClean(t, s, 1500, true) })
	step("P1113: again", 0, func() { wantClean(t, s, 1500, false) })
	step("P1111: it is stored still", 0, func() { wantMark(t, s, 1500, true) })
	step("P1113", 0, func() { wantClean(t, s, 1500, true); wantClean(t, s, 3, true) })
	step("P1112: they are stored still", 1, many(3, 3, 4, 1500))
	step("P1113", 0, func() { wantClean(t, s, 1500, true); wantClean(t, s, 4, true) })
	step("P1114: where they differ", 3, func() { must(t, "P1114", s.Checkpoint()) })
	step("P1114: nowhere", 1, func() { must(t, "P1114", s.Checkpoint()) })
	step("P1115", 1, func() { must(t, "P1115", s.SetGens(api.Gens{}, 0)) })
	if !slices.Equal(s.Bits(), words(3, 2099)) || !slices.Equal(s.Stored(), words(3, 2099)) || s.Marked() != 2 {
		t.Errorf("P1116: Bits %x", s.Bits())
	}
}

// P1112: in the order of the promise; nothing is written or marked by what is refused.
func TestMarkWordsRefused(t *testing.T) {
	for _, blocks := range []int{1, 10, 63, 64, 65, 128, 130} {
		d, _ := formatted(t, blocks, 128, 1, 1, false)
		s, _ := opened(t, d)
		image := d.Image()
		full := (blocks + 63) / 64
		for _, size := range []int{0, full - 1, full + 1, full + 64} {
			words := make([]uint64, size)
			for i := range words {
				words[i] = math.MaxUint64
			}
			n, e := s.MarkWords(words)
			if n != 0 || e != api.ErrSize {
				t.Errorf("P1112: %d blocks, %d words: %d, %v", blocks, size, n, e)
			}
		}
		for b := blocks; b < 64*full; b++ {
			words := make([]uint64, full)
			words[0] = 1
			words[b/64] |= 1 << (b % 64)
			if n, e := s.MarkWords(words); n != 0 || e != api.ErrRange {
				t.Errorf("P1112: bit %d of %d: %d, %v", b, blocks, n, e)
			}
		}
		if s.Marked() != 0 || !bytes.Equal(d.Image(), image) || s.Super().Mark != blocks {
			t.Errorf("P1112: Marked %d", s.Marked())
		}
	}
}

// P1103, P1111 to P1115: how low and how high Mark goes, in memory and on the disk.
func TestSuperMark(t *testing.T) {
	d, _ := formatted(t, 20, 128, 1, 1, false)
	s, _ := opened(t, d)
	mark := func(what string, wanted, later int) {
		t.Helper()
		if s.Super().Mark != wanted {
			t.Errorf("%s: Mark %d, want %d", what, s.Super().Mark, wanted)
		}
		again, _ := opened(t, d)
		if again.Super().Mark != later {
			t.Errorf("P1103: %s, opened anew: Mark %d, want %d", what, again.Super().Mark, later)
		}
	}
	mark("P1103: none is marked", 20, 20)
	wantMark(t, s, 12, true)
	mark("P1111: lower", 12, 12)
	wantMark(t, s, 15, true)
	mark("P1111: not higher", 12, 12)
	s.MarkWords([]uint64{1<<7 | 1<<9 | 1<<19})
	mark("P1112: the least of them", 7, 7)
	s.MarkWords([]uint64{1 << 8})
	mark("P1112: not higher", 7, 7)
	s.MarkWords([]uint64{0})
	mark("P1112: none", 7, 7)
	wantClean(t, s, 7, true)
	mark("P1113: it stays", 7, 7)
	must(t, "P1115", s.SetGens(api.Gens{Current: 9}, 3))
	mark("P1115: as Super tells it", 7, 7)
	must(t, "P1114", s.Checkpoint())
	mark("P1114: the least marked block", 8, 8)
	for b := 8; b < 20; b++ {
		s.Clean(b)
	}
	mark("P1113: it stays", 8, 8)
	must(t, "P1114", s.Checkpoint())
	mark("P1114: none is marked", 20, 20)
	wantMark(t, s, 0, true)
	wantClean(t, s, 0, true)
	mark("P1111: block 0", 0, 0)
	must(t, "P1115", s.SetGens(api.Gens{}, 3))
	wantSuper(t, d, api.Super{Seq: 5, Blocks: 20, Size: 128, Slots: 1, Flags: 3, Mark: 0}, 0)
}

// wantSuper looks at the superblock on the disk itself.
func wantSuper(t *testing.T, d *disk.Disk, wanted api.Super, slot int) {
	t.Helper()
	total, _ := d.Geometry()
	block, _ := d.Durable(total - 2 + slot)
	if got, e := meta.Unseal(block); got != wanted || e != api.OK {
		t.Errorf("slot %d: %+v, %v, want %+v", slot, got, e, wanted)
	}
}

// P1103: the superblock's own Mark where it is the lesser one.
func TestOpenMark(t *testing.T) {
	for own := range 9 {
		for least := range 9 {
			d, l := formatted(t, 8, 128, 1, 1, false)
			d.Through(l.Super, sealOf(t, api.Super{Seq: 3, Blocks: 8, Size: 128, Slots: 1, Mark: own}))
			block := make([]byte, 128)
			if least < 8 {
				block[0] = 0xff << least
			}
			d.Through(l.Bitmap, block)
			s, _ := opened(t, d)
			if s.Super().Mark != min(own, least) || s.Marked() != 8-least {
				t.Errorf("P1103: own %d, least %d: %d", own, least, s.Super().Mark)
			}
		}
	}
}

// The superblock goes into the slot that does not hold the last one, by turns (P1114, P1115).
func TestSuperSlots(t *testing.T) {
	d, s := small(t, 1, false)
	old := s.Super()
	for i := range 5 {
		var next api.Super
		if i%2 == 0 {
			gens := api.Gens{Current: uint64(i), Bitmap: 1, Old1: 2, Old2: math.MaxUint64}
			must(t, "P1115", s.SetGens(gens, uint32(15-i)))
			next = old
			next.Gens, next.Flags = gens, uint32(15-i)
		} else {
			must(t, "P1114", s.Checkpoint())
			next = old
		}
		next.Seq++
		if s.Super() != next {
			t.Errorf("P1115: %+v, want %+v", s.Super(), next)
		}
		wantSuper(t, d, next, 1-i%2)
		wantSuper(t, d, old, i%2)
		if i == 2 {
			var r api.Recovery
			s, r = opened(t, d)
			if r.Slot != 1 {
				t.Errorf("P1102: %+v", r)
			}
		}
		old = next
	}
}

// P1114, P1115: a power failure at the superblock leaves the one that was last written.
func TestSuperPower(t *testing.T) {
	d, s := small(t, 1, false)
	wantMark(t, s, 1, true)
	old := s.Super()
	d.Fuse(0)
	want(t, "P1115", s.SetGens(api.Gens{Current: 77}, 3), api.ErrPower)
	wantDown(t, s, api.Layout{Blocks: 4, Size: 128})
	d.Crash(nil)
	s, _ = opened(t, d)
	if s.Super() != old {
		t.Errorf("P1115: %+v, want %+v", s.Super(), old)
	}
	wantClean(t, s, 1, true)
	d.Fuse(1)
	want(t, "P1114: the bitmap was written", s.Checkpoint(), api.ErrPower)
	d.Crash(nil)
	s, _ = opened(t, d)
	wantMarks(t, "P1114", s, []uint64{0}, []uint64{0})
	// What lowered it was forgotten with the mark itself.
	old.Mark = 4
	if s.Super() != old {
		t.Errorf("P1114: %+v, want %+v", s.Super(), old)
	}
}

// P1114, P1115: a superblock whose Seq is 2^62 is not written again; all else goes on.
func TestSuperFull(t *testing.T) {
	d, l := formatted(t, 4, 128, 1, 1, false)
	super := api.Super{Seq: 1<<62 - 1, Blocks: 4, Size: 128, Slots: 1, Flags: 4, Mark: 4}
	d.Through(l.Super+1, sealOf(t, super))
	s, _ := opened(t, d)
	must(t, "P1115: the last one", s.SetGens(api.Gens{Current: 8}, 5))
	wantSuper(t, d, api.Super{Seq: 1 << 62, Blocks: 4, Size: 128, Slots: 1, Gens: api.Gens{Current: 8}, Flags: 5, Mark: 4}, 0)
	wantMark(t, s, 2, true)
	wantClean(t, s, 2, true)
	image, told := d.Image(), s.Super()
	want(t, "P1114: no more", s.Checkpoint(), api.ErrFull)
	want(t, "P1115: no more", s.SetGens(api.Gens{}, 0), api.ErrFull)
	want(t, "P1115: ErrArg ahead of ErrFull", s.SetGens(api.Gens{}, 16), api.ErrArg)
	if !bytes.Equal(d.Image(), image) || s.Super() != told {
		t.Errorf("P1114: what was refused changed something: %+v", s.Super())
	}
	wantMarks(t, "P1114", s, []uint64{0}, []uint64{4}, 0)
	must(t, "P1107", s.Begin(0))
	must(t, "P1109", s.Write(0, fill('A')))
}

// P1115: flags, up to the edge.
func TestSetGensRefused(t *testing.T) {
	d, s := small(t, 1, false)
	image, told := d.Image(), s.Super()
	for bit := 4; bit < 32; bit++ {
		want(t, "P1115", s.SetGens(api.Gens{Current: 5}, 1<<bit), api.ErrArg)
		want(t, "P1115", s.SetGens(api.Gens{Current: 5}, 1<<bit|15), api.ErrArg)
	}
	want(t, "P1115", s.SetGens(api.Gens{}, math.MaxUint32), api.ErrArg)
	if s.Super() != told || !bytes.Equal(d.Image(), image) {
		t.Errorf("P1115: %+v", s.Super())
	}
	for flags := range uint32(16) {
		must(t, "P1115", s.SetGens(api.Gens{}, flags))
		if s.Super().Flags != flags {
			t.Errorf("P1115: Flags %d, want %d", s.Super().Flags, flags)
		}
	}
}

// P1116: example 3, and Next from everywhere.
func TestNext(t *testing.T) {
	d, _ := formatted(t, 130, 128, 1, 1, false)
	s, _ := opened(t, d)
	for _, b := range []int{0, 63, 64, 129} {
		wantMark(t, s, b, true)
	}
	for from, wanted := range map[int]int{math.MinInt: 0, -1: 0, 0: 0, 1: 63, 63: 63, 64: 64, 65: 129, 129: 129, 130: -1, math.MaxInt: -1} {
		if s.Next(from) != wanted {
			t.Errorf("P1116: Next(%d): %d, want %d", from, s.Next(from), wanted)
		}
	}
	wantClean(t, s, 63, true)
	if s.Marked() != 3 || s.Next(1) != 64 || !slices.Equal(s.Bits(), []uint64{1, 1, 2}) || !slices.Equal(s.Stored(), []uint64{1<<63 | 1, 1, 2}) {
		t.Errorf("P1116: Marked %d, Next %d, Bits %x, Stored %x", s.Marked(), s.Next(1), s.Bits(), s.Stored())
	}
}

// P1118: what the ring named at Open counts until the first record, then the hot ones.
func TestCovered(t *testing.T) {
	d, _ := formatted(t, 40, 128, 3, 1, false)
	s, _ := opened(t, d)
	must(t, "P1107", s.Begin(36))
	must(t, "P1107", s.Begin(8))
	wantMark(t, s, 20, true)
	wantMarks(t, "P1118", s, []uint64{1 << 20}, []uint64{1 << 20}, 2, 5, 9)
	s, r := opened(t, d)
	wantRecovery(t, "not primary", r, 0, false, false)
	wantMarks(t, "P1118: the old run's ring", s, []uint64{1 << 20}, []uint64{1 << 20}, 2, 5, 9)
	if len(s.Hot()) != 0 {
		t.Errorf("P1117: Hot %v", s.Hot())
	}
	must(t, "P1115", s.SetGens(api.Gens{}, api.FlagPrimary))
	wantClean(t, s, 20, true)
	wantMarks(t, "P1118: stored still", s, []uint64{0}, []uint64{1 << 20}, 2, 5, 9)
	must(t, "P1114", s.Checkpoint())
	wantMarks(t, "P1118: stored no more", s, []uint64{0}, []uint64{0}, 2, 9)
	again, r := opened(t, d)
	wantRecovery(t, "primary since", r, 0, true, false, 2, 9)
	wantMarks(t, "P1119: as Covered told", again, []uint64{0xf<<36 | 0xf<<8}, []uint64{0xf<<36 | 0xf<<8}, 2, 9)
}

// P1118: the first record of a new run ends what the old one named.
func TestCoveredNewRun(t *testing.T) {
	d, _ := formatted(t, 40, 128, 3, 1, false)
	s, _ := opened(t, d)
	must(t, "P1107", s.Begin(36))
	s, _ = opened(t, d)
	must(t, "P1107", s.Begin(0))
	wantMarks(t, "P1118: a record of the new run", s, []uint64{0}, []uint64{0}, 0)
	again, _ := opened(t, d)
	wantMarks(t, "P1118: as opened anew", again, []uint64{0}, []uint64{0}, 0)
}

// P1118: of a broken ring nothing counts.
func TestCoveredBroken(t *testing.T) {
	d, l := formatted(t, 8, 128, 6, 1, false)
	s, _ := opened(t, d)
	must(t, "P1107", s.Begin(4))
	d.Through(l.Log+1, fill('?'))
	s, r := opened(t, d)
	wantRecovery(t, "a broken ring", r, 0, false, true)
	for b := range 8 {
		wantClean(t, s, b, true)
	}
	must(t, "P1114", s.Checkpoint())
	wantMarks(t, "P1118: a broken ring", s, []uint64{0}, []uint64{0})
	must(t, "P1107", s.Begin(0))
	log, _ := actlog.New(6, 2, 128, 0)
	_, record, _ := log.Begin(0)
	if got, _ := d.Durable(l.Log); !bytes.Equal(got, record) {
		t.Errorf("P1102: the numbers do not begin anew: % x", got)
	}
}

// P1102, P1104: examples 4 to 7.
func TestExamples(t *testing.T) {
	for _, flags := range []uint32{4, 1} {
		d, s := small(t, flags, false)
		must(t, "P1107", s.Begin(1))
		must(t, "P1109", s.Write(1, fill('A')))
		d.Crash([]byte{1})
		s, r := opened(t, d)
		wantRead(t, "example 4", s, 1, fill('A'), api.OK)
		if flags == 4 {
			wantRecovery(t, "example 4", r, 0, true, false, 0)
			wantMarks(t, "example 4", s, []uint64{15}, []uint64{15}, 0)
		} else {
			wantRecovery(t, "example 4", r, 0, false, false)
			wantMarks(t, "example 4", s, []uint64{0}, []uint64{0}, 0)
		}
	}
	d, s := small(t, 4, false)
	d.Fuse(0)
	want(t, "example 5", s.Begin(1), api.ErrPower)
	wantDown(t, s, api.Layout{Blocks: 4, Size: 128})
	d.Crash(nil)
	s, r := opened(t, d)
	wantRecovery(t, "example 5", r, 0, true, false)
	wantMarks(t, "example 5", s, []uint64{0}, []uint64{0})
	d.Spoil(4)
	d.Crash(nil)
	s, r = opened(t, d)
	wantRecovery(t, "example 6", r, 0, true, true)
	wantMarks(t, "example 6", s, []uint64{15}, []uint64{15}, 0)
	if _, err := d.Durable(4); err != nil {
		t.Errorf("example 6: %v", err)
	}
	s, r = opened(t, d)
	wantRecovery(t, "example 6, once more", r, 0, true, false)
	wantMarks(t, "example 6, once more", s, []uint64{15}, []uint64{15}, 0)
	d.Spoil(5)
	_, r = opened(t, d)
	wantRecovery(t, "example 7", r, 0, true, true)
	if b, err := d.Durable(5); err != nil || !bytes.Equal(b, make([]byte, 128)) {
		t.Errorf("example 7: % x, %v", b, err)
	}
	d.Spoil(6)
	wantNone(t, "example 7", d, api.ErrSuper)
}

// P1120: two stores on two disks share nothing.
func TestTwoStores(t *testing.T) {
	a, s := small(t, 1, false)
	b, other := small(t, 1, true)
	must(t, "P1107", s.Begin(0))
	must(t, "P1109", s.Write(0, fill('A')))
	wantMark(t, s, 1, true)
	a.Fuse(0)
	want(t, "P1110", s.Flush(), api.ErrPower)
	wantMarks(t, "P1120", other, []uint64{15}, []uint64{15}, 0)
	wantRead(t, "P1120", other, 0, fill('d'), api.OK)
	if !b.On() || len(other.Hot()) != 0 || other.Records() != 0 {
		t.Errorf("P1120: Hot %v, Records %d", other.Hot(), other.Records())
	}
}

// P1120: no call panics, of what disks there may be.
func TestNoDisk(t *testing.T) {
	if s, _, e := Open(nil); s != nil || e == api.OK {
		t.Errorf("Open(nil): %v", e)
	}
	if Format(nil, 4, 1, api.Gens{}, 0, true) == api.OK {
		t.Errorf("Format(nil, ..) formatted")
	}
	var zero disk.Disk
	if s, _, e := Open(&zero); s != nil || e == api.OK {
		t.Errorf("Open of a zero disk: %v", e)
	}
	want(t, "P1101: a zero disk", Format(&zero, 4, 1, api.Gens{}, 0, true), api.ErrArg)
}
