package meta

import (
	"bytes"
	"crypto/sha256"
	"encoding/binary"
	"math"
	"testing"

	"replica/api"
)

// dice: numbers that are the same at each run.
type dice uint64

func (d *dice) roll(n int) int {
	*d = *d*6364136223846793005 + 1442695040888963407
	return int(uint64(*d) >> 33 % uint64(n))
}

func example() api.Super {
	return api.Super{Seq: 1, Blocks: 4, Size: 128, Slots: 1, Gens: api.Gens{Current: 4}, Flags: 1, Mark: 4}
}

// greatest: every field at its upper end.
func greatest() api.Super {
	return api.Super{
		Seq: 1 << 62, Blocks: 4096, Size: 1024, Slots: 16,
		Gens:  api.Gens{Current: math.MaxUint64, Bitmap: math.MaxUint64, Old1: math.MaxUint64, Old2: math.MaxUint64},
		Flags: 15, Mark: 4096,
	}
}

// fields: what the table of a superblock's bytes lays behind the letters, in its order.
type fields struct {
	Seq                       uint64
	Blocks, Size, Slots, Mark uint32
	Gens                      [4]uint64
	Flags                     uint32
}

func fieldsOf(s api.Super) fields {
	return fields{
		s.Seq, uint32(s.Blocks), uint32(s.Size), uint32(s.Slots), uint32(s.Mark),
		[4]uint64{s.Gens.Current, s.Gens.Bitmap, s.Gens.Old1, s.Gens.Old2}, s.Flags,
	}
}

// block writes the fields into a block of that many bytes, whatever they say, with a right seal.
func (f fields) block(size int) []byte {
	l := binary.BigEndian.AppendUint64([]byte("REPLICA1"), f.Seq)
	for _, n := range []uint32{f.Blocks, f.Size, f.Slots, f.Mark} {
		l = binary.BigEndian.AppendUint32(l, n)
	}
	for _, n := range f.Gens {
		l = binary.BigEndian.AppendUint64(l, n)
	}
	l = binary.BigEndian.AppendUint32(l, f.Flags)
	return sealed(append(l, make([]byte, size-len(l))...))
}

// sealed gives the block with its last 32 bytes made right.
func sealed(block []byte) []byte {
	block = bytes.Clone(block)
	at := len(block) - 32
	sum := sha256.Sum256(block[:at])
	copy(block[at:], sum[:])
	return block
}

func made(t *testing.T, s api.Super) []byte {
	t.Helper()
	block, e := Seal(s)
	if e != api.OK || len(block) != s.Size {
		t.Fatalf("Seal(%+v): %d bytes, %d", s, len(block), e)
	}
	return block
}

func wantSealed(t *testing.T, s api.Super) {
	t.Helper()
	block, want := made(t, s), fieldsOf(s).block(s.Size)
	if !bytes.Equal(block, want) {
		t.Errorf("Seal(%+v):\n% x, want\n% x", s, block, want)
	}
	wantUnseal(t, "what Seal wrote", block, s, api.OK)
}

func wantUnseal(t *testing.T, what string, block []byte, want api.Super, wantErr api.Errno) {
	t.Helper()
	before := bytes.Clone(block)
	if s, e := Unseal(block); s != want || e != wantErr {
		t.Errorf("%s: Unseal: %+v, %d, want %+v, %d", what, s, e, want, wantErr)
	}
	if !bytes.Equal(block, before) {
		t.Errorf("%s: Unseal changed its block", what)
	}
}

func wantRefused(t *testing.T, what string, block []byte, want api.Errno) {
	t.Helper()
	wantUnseal(t, what, block, api.Super{}, want)
}

// P503, P504: the chapter's example, byte by byte.
func TestExample(t *testing.T) {
	want := []byte{
		0x52, 0x45, 0x50, 0x4c, 0x49, 0x43, 0x41, 0x31,
		0, 0, 0, 0, 0, 0, 0, 1,
		0, 0, 0, 4, 0, 0, 0, 0x80, 0, 0, 0, 1, 0, 0, 0, 4,
		0, 0, 0, 0, 0, 0, 0, 4,
	}
	want = append(want, make([]byte, 24)...)
	want = append(want, 0, 0, 0, 1)
	want = append(want, make([]byte, 28)...)
	sum := sha256.Sum256(want)
	want = append(want, sum[:]...)
	if block := made(t, example()); !bytes.Equal(block, want) {
		t.Errorf("% x, want\n% x", block, want)
	}
	wantUnseal(t, "the example", want, example(), api.OK)
}

// P503, P504: each field at its ends, and at numbers that tell its bytes apart.
func TestSealedFields(t *testing.T) {
	wantSealed(t, greatest())
	for _, size := range sizes {
		s := api.Super{Seq: 0x0102030405060708, Blocks: 0x0a0b, Size: size, Slots: 13, Mark: 0x0809, Flags: 10}
		s.Gens = api.Gens{Current: 0x1112131415161718, Bitmap: 0x2122232425262728, Old1: 0x3132333435363738, Old2: 0x4142434445464748}
		wantSealed(t, s)
		s.Mark = 0
		wantSealed(t, s)
		s.Mark = s.Blocks
		wantSealed(t, s)
		wantSealed(t, api.Super{Seq: 1, Blocks: 1, Size: size, Slots: 1})
	}
	for flags := range uint32(16) {
		s := example()
		s.Flags = flags
		wantSealed(t, s)
	}
	for slots := 1; slots <= 16; slots++ {
		s := example()
		s.Slots = slots
		wantSealed(t, s)
	}
}

// P503.
func TestSealRefused(t *testing.T) {
	refused := func(change func(s *api.Super)) {
		t.Helper()
		for _, s := range []api.Super{example(), greatest()} {
			change(&s)
			if block, e := Seal(s); len(block) != 0 || e != api.ErrField {
				t.Errorf("Seal(%+v): %d bytes, %d, want ErrField", s, len(block), e)
			}
		}
	}
	refused(func(s *api.Super) { *s = api.Super{} })
	for _, seq := range []uint64{0, 1<<62 + 1, 1 << 63, math.MaxUint64} {
		refused(func(s *api.Super) { s.Seq = seq })
	}
	for _, blocks := range []int{math.MinInt, -1, 0, 4097, 1<<32 + 4096, math.MaxInt} {
		refused(func(s *api.Super) { s.Blocks = blocks })
		refused(func(s *api.Super) { s.Blocks, s.Mark = blocks, 0 })
	}
	for _, size := range noSizes {
		refused(func(s *api.Super) { s.Size = size })
	}
	for _, slots := range []int{math.MinInt, -1, 0, 17, 1<<32 + 1, math.MaxInt} {
		refused(func(s *api.Super) { s.Slots = slots })
	}
	for _, mark := range []int{math.MinInt, -1, 1 << 32, 1<<32 + 1, math.MaxInt} {
		refused(func(s *api.Super) { s.Mark = mark })
	}
	refused(func(s *api.Super) { s.Mark = s.Blocks + 1 })
	for bit := 4; bit < 32; bit++ {
		refused(func(s *api.Super) { s.Flags |= 1 << bit })
		refused(func(s *api.Super) { s.Flags = 1 << bit })
	}
}

// P504: a block's length is asked first, even where it begins and ends as a superblock.
func TestUnsealLengths(t *testing.T) {
	wantRefused(t, "nil", nil, api.ErrSize)
	wantRefused(t, "no bytes", []byte{}, api.ErrSize)
	for size := 1; size <= 2100; size++ {
		want := api.ErrSize
		if size == 128 || size == 256 || size == 512 || size == 1024 {
			want = api.ErrMagic
		}
		wantRefused(t, "zeroes", make([]byte, size), want)
		if size < 100 || want == api.ErrMagic {
			continue
		}
		f := fieldsOf(example())
		f.Size = uint32(size)
		wantRefused(t, "a sealed block", f.block(size), api.ErrSize)
	}
}

// P504: whatever bit of a superblock is turned, by a write that was torn or else, is told: the letters first, then the seal.
func TestUnsealTurnedBits(t *testing.T) {
	for _, s := range []api.Super{example(), greatest()} {
		block := made(t, s)
		for bit := range 8 * len(block) {
			want := api.ErrSeal
			if bit < 64 {
				want = api.ErrMagic
			}
			torn := bytes.Clone(block)
			torn[bit/8] ^= 1 << (bit % 8)
			wantRefused(t, "a bit turned", torn, want)
			if bit < 64 {
				wantRefused(t, "a letter turned, sealed anew", sealed(torn), api.ErrMagic)
			}
		}
	}
}

// P504: the seal is that of all bytes ahead of it, and stands ahead of the fields.
func TestUnsealOrder(t *testing.T) {
	f := fieldsOf(example())
	f.Seq, f.Blocks, f.Size, f.Slots, f.Mark, f.Flags = 0, 0, 0, 0, 9, 99
	block := f.block(128)
	wantRefused(t, "no field stands", block, api.ErrField)
	block[127]++
	wantRefused(t, "no field and no seal stands", block, api.ErrSeal)
	block[7]++
	wantRefused(t, "nothing stands", block, api.ErrMagic)
	wantRefused(t, "nothing stands, nor the length", block[:127], api.ErrSize)
	zeroes := make([]byte, 128)
	copy(zeroes, "REPLICA1")
	wantRefused(t, "the letters alone", zeroes, api.ErrSeal)
	wantRefused(t, "the letters alone, sealed", sealed(zeroes), api.ErrField)
}

// P504: one field outside its domain, under a right seal.
func TestUnsealFields(t *testing.T) {
	refused := func(what string, change func(f *fields)) {
		t.Helper()
		for _, s := range []api.Super{example(), greatest()} {
			f := fieldsOf(s)
			change(&f)
			wantRefused(t, what, f.block(s.Size), api.ErrField)
		}
	}
	for _, seq := range []uint64{0, 1<<62 + 1, 1 << 63, math.MaxUint64} {
		refused("Seq", func(f *fields) { f.Seq = seq })
	}
	for _, blocks := range []uint32{0, 4097, 1 << 16, 1 << 31, math.MaxUint32} {
		refused("Blocks", func(f *fields) { f.Blocks = blocks })
		refused("Blocks, with Mark 0", func(f *fields) { f.Blocks, f.Mark = blocks, 0 })
	}
	for _, slots := range []uint32{0, 17, 1<<8 + 1, 1 << 31, math.MaxUint32} {
		refused("Slots", func(f *fields) { f.Slots = slots })
	}
	for _, mark := range []uint32{4097, 1 << 16, 1 << 31, math.MaxUint32} {
		refused("Mark", func(f *fields) { f.Mark = mark })
	}
	refused("Mark above Blocks", func(f *fields) { f.Mark = f.Blocks + 1 })
	for bit := 4; bit < 32; bit++ {
		refused("Flags", func(f *fields) { f.Flags |= 1 << bit })
	}
	for _, size := range []uint32{0, 1, 64, 127, 129, 192, 256, 512, 2048, 1<<16 + 128, 1<<31 + 128, math.MaxUint32} {
		refused("Size", func(f *fields) { f.Size = size })
	}
}

// P504: each size in a block of each other one.
func TestUnsealOtherSize(t *testing.T) {
	for _, size := range sizes {
		for _, length := range sizes {
			s := example()
			s.Size = size
			block := fieldsOf(s).block(length)
			if size == length {
				wantUnseal(t, "its own size", block, s, api.OK)
			} else {
				wantRefused(t, "another size", block, api.ErrField)
			}
		}
	}
}

// P504: each byte between the flags and the seal.
func TestUnsealZeroes(t *testing.T) {
	for _, size := range sizes {
		s := example()
		s.Size = size
		block := made(t, s)
		for at := 68; at < size-32; at++ {
			for _, b := range []byte{1, 0x80, 0xff} {
				other := bytes.Clone(block)
				other[at] = b
				wantRefused(t, "a byte that is to be zero", sealed(other), api.ErrField)
			}
		}
	}
}

// read goes by the words of P504 one behind the other.
func read(block []byte) (api.Super, api.Errno) {
	size := len(block)
	if size != 128 && size != 256 && size != 512 && size != 1024 {
		return api.Super{}, api.ErrSize
	}
	if !bytes.HasPrefix(block, []byte("REPLICA1")) {
		return api.Super{}, api.ErrMagic
	}
	if sum := sha256.Sum256(block[:size-32]); !bytes.HasSuffix(block, sum[:]) {
		return api.Super{}, api.ErrSeal
	}
	var f fields
	if _, err := binary.Decode(block[8:], binary.BigEndian, &f); err != nil {
		panic(err)
	}
	if f.Seq == 0 || f.Seq > 1<<62 || f.Blocks == 0 || f.Blocks > 4096 || f.Size != uint32(size) || f.Slots == 0 || f.Slots > 16 || f.Mark > f.Blocks || f.Flags > 15 {
		return api.Super{}, api.ErrField
	}
	if !bytes.Equal(block[68:size-32], make([]byte, size-100)) {
		return api.Super{}, api.ErrField
	}
	return api.Super{
		Seq: f.Seq, Blocks: int(f.Blocks), Size: size, Slots: int(f.Slots), Flags: f.Flags, Mark: int(f.Mark),
		Gens: api.Gens{Current: f.Gens[0], Bitmap: f.Gens[1], Old1: f.Gens[2], Old2: f.Gens[3]},
	}, api.OK
}

func rolledSuper(d *dice) api.Super {
	s := api.Super{Seq: uint64(1 + d.roll(9)), Blocks: 1 + d.roll(4096), Size: sizes[d.roll(4)], Slots: 1 + d.roll(16), Flags: uint32(d.roll(16))}
	s.Mark = d.roll(s.Blocks + 1)
	s.Gens = api.Gens{Current: uint64(d.roll(1 << 30)), Bitmap: uint64(d.roll(1 << 30)), Old1: uint64(d.roll(1 << 30)), Old2: uint64(d.roll(1 << 30))}
	return s
}

// rolledSlot gives what a slot may hold: most often a superblock, of which some bytes may be others, under a right seal or not.
func rolledSlot(t *testing.T, d *dice) []byte {
	t.Helper()
	block := made(t, rolledSuper(d))
	if d.roll(3) == 0 {
		return block
	}
	for range 1 + d.roll(3) {
		block[d.roll(len(block))] = byte(d.roll(20))
	}
	switch d.roll(5) {
	case 0:
		return block
	case 1:
		return block[:d.roll(len(block))]
	case 2:
		return nil
	}
	return sealed(block)
}

// P501, P504, P505: rows of slots held against the words of the promises, and asked twice.
func TestSlotsAgainstOracle(t *testing.T) {
	d := dice(5)
	seen := map[api.Errno]int{}
	for range 20000 {
		first, second := rolledSlot(t, &d), rolledSlot(t, &d)
		a, errA := read(first)
		b, errB := read(second)
		seen[errA]++
		wantUnseal(t, "a slot", first, a, errA)
		want, slot, wantErr := a, 0, api.OK
		switch {
		case errA != api.OK && errB != api.OK:
			wantErr = api.ErrSuper
		case errA != api.OK || errB == api.OK && b.Seq > a.Seq:
			want, slot = b, 1
		}
		for range 2 {
			wantChoose(t, first, second, want, slot, wantErr)
		}
	}
	for _, e := range []api.Errno{api.OK, api.ErrSize, api.ErrMagic, api.ErrSeal, api.ErrField} {
		if seen[e] < 100 {
			t.Errorf("errno %d came %d times alone", e, seen[e])
		}
	}
}

func wantChoose(t *testing.T, first, second []byte, want api.Super, slot int, wantErr api.Errno) {
	t.Helper()
	before, beside := bytes.Clone(first), bytes.Clone(second)
	if s, at, e := Choose(first, second); s != want || at != slot || e != wantErr {
		t.Errorf("Choose: %+v, %d, %d, want %+v, %d, %d", s, at, e, want, slot, wantErr)
	}
	if !bytes.Equal(first, before) || !bytes.Equal(second, beside) {
		t.Error("Choose changed a slot")
	}
}

// P505.
func TestChoose(t *testing.T) {
	a, b := example(), example()
	a.Seq, b.Seq = 7, 8
	seven, eight := made(t, a), made(t, b)
	zeroes := make([]byte, 128)
	wantChoose(t, seven, eight, b, 1, api.OK)
	wantChoose(t, eight, seven, b, 0, api.OK)
	wantChoose(t, seven, nil, a, 0, api.OK)
	wantChoose(t, nil, seven, a, 1, api.OK)
	wantChoose(t, seven, []byte{}, a, 0, api.OK)
	wantChoose(t, eight[:127], seven, a, 1, api.OK)
	wantChoose(t, seven, zeroes, a, 0, api.OK)
	wantChoose(t, seven, seven, a, 0, api.OK)
	wantChoose(t, seven, bytes.Clone(seven), a, 0, api.OK)
	wantChoose(t, nil, zeroes, api.Super{}, 0, api.ErrSuper)
	wantChoose(t, zeroes, nil, api.Super{}, 0, api.ErrSuper)
	wantChoose(t, nil, nil, api.Super{}, 0, api.ErrSuper)
	wantChoose(t, zeroes, zeroes, api.Super{}, 0, api.ErrSuper)
}

// P505: the numbers alone decide, at their ends too; a slot may even be of another size.
func TestChooseBySeq(t *testing.T) {
	low, high := example(), greatest()
	wantChoose(t, made(t, low), made(t, high), high, 1, api.OK)
	wantChoose(t, made(t, high), made(t, low), high, 0, api.OK)
	high.Seq = low.Seq
	wantChoose(t, made(t, low), made(t, high), low, 0, api.OK)
	wantChoose(t, made(t, high), made(t, low), high, 0, api.OK)
	near := greatest()
	near.Seq--
	wantChoose(t, made(t, near), made(t, greatest()), greatest(), 1, api.OK)
}

// P501: no two answers share memory, their spare room included.
func TestSealShares(t *testing.T) {
	first, second := made(t, example()), made(t, example())
	want := bytes.Clone(second)
	clear(first[:cap(first)])
	if !bytes.Equal(second, want) || !bytes.Equal(made(t, example()), want) {
		t.Error("what was done to one answer is seen in another")
	}
}
