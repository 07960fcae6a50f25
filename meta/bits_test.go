package meta

import (
	"bytes"
	"math"
	"slices"
	"testing"

	"replica/api"
)

// edges: numbers of bits at the ends of words, blocks and of all.
var edges = []int{1, 2, 7, 8, 9, 10, 63, 64, 65, 127, 128, 1023, 1024, 1025, 2047, 2048, 2049, 4095, 4096, 4097, 8191, 8192, 8193, 65535, 65536}

// noCounts: numbers of bits that no bitmap has.
var noCounts = []int{math.MinInt, -64, -1, 0, 65537, 1<<32 + 10, math.MaxInt}

func wordsFor(n int) int {
	count := n / 64
	if n%64 != 0 {
		count++
	}
	return count
}

func blocksFor(n int, size int) int {
	count := n / 8 / size
	if n > count*8*size {
		count++
	}
	return count
}

// laid lays bit by bit what P506 says.
func laid(n int, words []uint64, size int) [][]byte {
	blocks := make([][]byte, blocksFor(n, size))
	for k := range blocks {
		blocks[k] = make([]byte, size)
	}
	for i := range n {
		if words[i/64]>>(i%64)&1 == 1 {
			blocks[i/(8*size)][i%(8*size)/8] |= 1 << (i % 8)
		}
	}
	return blocks
}

// lifted reads bit by bit what P507 says.
func lifted(n int, blocks [][]byte, size int) ([]uint64, bool) {
	words := make([]uint64, wordsFor(n))
	for i := range n {
		block := blocks[i/(8*size)]
		if len(block) == 0 || block[i%(8*size)/8]>>(i%8)&1 == 1 {
			words[i/64] |= 1 << (i % 64)
		}
	}
	return words, slices.ContainsFunc(blocks, func(block []byte) bool { return len(block) == 0 })
}

func rolledWords(d *dice, n int) []uint64 {
	words := make([]uint64, wordsFor(n))
	for i := range words {
		words[i] = uint64(d.roll(1<<30))<<34 | uint64(d.roll(1<<30))<<15 | uint64(d.roll(1<<30))
	}
	if n%64 != 0 {
		words[len(words)-1] &= 1<<(n%64) - 1
	}
	return words
}

func sameBlocks(a [][]byte, b [][]byte) bool { return slices.EqualFunc(a, b, bytes.Equal) }

func cloned(blocks [][]byte) [][]byte {
	other := make([][]byte, len(blocks))
	for k := range blocks {
		other[k] = bytes.Clone(blocks[k])
	}
	return other
}

func wantPacked(t *testing.T, n int, words []uint64, size int, want [][]byte) {
	t.Helper()
	before := slices.Clone(words)
	blocks, e := Pack(n, words, size)
	if e != api.OK || !sameBlocks(blocks, want) {
		t.Errorf("Pack(%d, .., %d): %d blocks, %d", n, size, len(blocks), e)
	}
	if !slices.Equal(words, before) {
		t.Errorf("Pack(%d, .., %d) changed its words", n, size)
	}
}

func wantNotPacked(t *testing.T, n int, words []uint64, size int, want api.Errno) {
	t.Helper()
	if blocks, e := Pack(n, words, size); len(blocks) != 0 || e != want {
		t.Errorf("Pack(%d, %d words, %d): %d blocks, %d, want %d", n, len(words), size, len(blocks), e, want)
	}
}

func wantUnpacked(t *testing.T, n int, blocks [][]byte, size int, want []uint64, lost bool) {
	t.Helper()
	before := cloned(blocks)
	words, gone, e := Unpack(n, blocks, size)
	if e != api.OK || !slices.Equal(words, want) || gone != lost {
		t.Errorf("Unpack(%d, .., %d): %x, %v, %d, want %x, %v", n, size, words, gone, e, want, lost)
	}
	if !sameBlocks(blocks, before) {
		t.Errorf("Unpack(%d, .., %d) changed its blocks", n, size)
	}
}

func wantNotUnpacked(t *testing.T, n int, blocks [][]byte, size int, want api.Errno) {
	t.Helper()
	if words, lost, e := Unpack(n, blocks, size); len(words) != 0 || lost || e != want {
		t.Errorf("Unpack(%d, %d blocks, %d): %d words, %v, %d, want %d", n, len(blocks), size, len(words), lost, e, want)
	}
}

// P506, P507: the chapter's examples.
func TestBitsExamples(t *testing.T) {
	block := make([]byte, 128)
	block[0], block[1] = 1, 2
	wantPacked(t, 10, []uint64{0x201}, 128, [][]byte{block})
	wantUnpacked(t, 10, [][]byte{block}, 128, []uint64{0x201}, false)
	wantNotPacked(t, 10, []uint64{0x400}, 128, api.ErrRange)
	wantNotPacked(t, 10, nil, 128, api.ErrSize)
	wantNotPacked(t, 0, nil, 128, api.ErrArg)
	wantUnpacked(t, 10, [][]byte{nil}, 128, []uint64{0x3ff}, true)
	wantUnpacked(t, 10, [][]byte{{}}, 128, []uint64{0x3ff}, true)
	wantUnpacked(t, 10, [][]byte{bytes.Repeat([]byte{0xff}, 128)}, 128, []uint64{0x3ff}, false)
	wantUnpacked(t, 1025, [][]byte{make([]byte, 128), nil}, 128, append(make([]uint64, 16), 1), true)
}

// P506, P507: each bit alone lies in one place, and is read from there.
func TestEachBit(t *testing.T) {
	for _, size := range sizes {
		n := 2*8*size + 5
		for i := range n {
			words := make([]uint64, wordsFor(n))
			words[i/64] = 1 << (i % 64)
			blocks, e := Pack(n, words, size)
			if e != api.OK || len(blocks) != 3 || blocks[i/(8*size)][i%(8*size)/8] != 1<<(i%8) {
				t.Fatalf("Pack of bit %d: %d", i, e)
			}
			if back, lost, e := Unpack(n, blocks, size); !slices.Equal(back, words) || lost || e != api.OK {
				t.Fatalf("Unpack of bit %d: %x, %v, %d", i, back, lost, e)
			}
		}
	}
}

// P506, P507: bitmaps of every kind of length, held against laying them bit by bit.
func TestBitsAgainstModel(t *testing.T) {
	d := dice(11)
	counts := slices.Clone(edges)
	for range 60 {
		counts = append(counts, 1+d.roll(5000))
	}
	for _, n := range counts {
		for _, size := range sizes {
			words := rolledWords(&d, n)
			blocks := laid(n, words, size)
			wantPacked(t, n, words, size, blocks)
			wantUnpacked(t, n, blocks, size, words, false)
			wantPacked(t, n, make([]uint64, len(words)), size, laid(n, make([]uint64, len(words)), size))
		}
	}
}

// P507: unreadable blocks among others that hold anything, at and above n too.
func TestUnreadableBlocks(t *testing.T) {
	d := dice(13)
	for _, n := range edges {
		for _, size := range sizes {
			for range 8 {
				blocks := make([][]byte, blocksFor(n, size))
				for k := range blocks {
					if d.roll(3) == 0 {
						continue
					}
					blocks[k] = make([]byte, size)
					for at := range blocks[k] {
						blocks[k][at] = byte(d.roll(256))
					}
				}
				words, lost := lifted(n, blocks, size)
				wantUnpacked(t, n, blocks, size, words, lost)
			}
		}
	}
}

// P506: each bit at or above n, in the last word.
func TestPackBitsAbove(t *testing.T) {
	for _, n := range edges {
		for i := n; i < 64*wordsFor(n); i++ {
			words := make([]uint64, wordsFor(n))
			words[i/64] = 1 << (i % 64)
			wantNotPacked(t, n, words, 128, api.ErrRange)
		}
	}
}

// P506: in the order of the promise.
func TestPackRefused(t *testing.T) {
	for _, n := range noCounts {
		for _, count := range []int{0, 1, 1025} {
			wantNotPacked(t, n, make([]uint64, count), 128, api.ErrArg)
		}
		wantNotPacked(t, n, []uint64{math.MaxUint64}, 100, api.ErrArg)
	}
	for _, size := range noSizes {
		wantNotPacked(t, 10, []uint64{1}, size, api.ErrArg)
		wantNotPacked(t, 10, []uint64{1 << 10}, size, api.ErrArg)
		wantNotPacked(t, 10, nil, size, api.ErrArg)
	}
	for _, n := range edges {
		full := slices.Repeat([]uint64{math.MaxUint64}, wordsFor(n)+1)
		for _, count := range []int{0, wordsFor(n) - 1, wordsFor(n) + 1} {
			wantNotPacked(t, n, full[:count], 256, api.ErrSize)
			wantNotPacked(t, n, make([]uint64, count), 256, api.ErrSize)
		}
	}
}

// P507: in the order of the promise.
func TestUnpackRefused(t *testing.T) {
	for _, n := range noCounts {
		for _, count := range []int{0, 1, 65} {
			wantNotUnpacked(t, n, make([][]byte, count), 128, api.ErrArg)
		}
		wantNotUnpacked(t, n, [][]byte{{1}}, 100, api.ErrArg)
	}
	for _, size := range noSizes {
		wantNotUnpacked(t, 10, [][]byte{nil}, size, api.ErrArg)
		wantNotUnpacked(t, 10, nil, size, api.ErrArg)
	}
	for _, n := range edges {
		for _, size := range sizes {
			count := blocksFor(n, size)
			wantNotUnpacked(t, n, nil, size, api.ErrSize)
			wantNotUnpacked(t, n, make([][]byte, count-1), size, api.ErrSize)
			wantNotUnpacked(t, n, make([][]byte, count+1), size, api.ErrSize)
		}
	}
}

// P507: one block of another length, wherever it stands, and whether another is unreadable or not.
func TestUnpackLengths(t *testing.T) {
	for _, size := range sizes {
		for at := range 3 {
			for _, length := range []int{1, 8, 64, size / 2, size - 8, size - 1, size + 1, size + 8, 2 * size} {
				blocks := [][]byte{make([]byte, size), make([]byte, size), make([]byte, size)}
				blocks[at] = make([]byte, length)
				wantNotUnpacked(t, 2*8*size+1, blocks, size, api.ErrSize)
				blocks[(at+1)%3] = nil
				wantNotUnpacked(t, 2*8*size+1, blocks, size, api.ErrSize)
			}
		}
	}
}

// P501: no block shares memory with another of its answer, spare room included.
func TestPackedBlocksShare(t *testing.T) {
	for _, order := range [][]int{{0, 1, 2, 3}, {3, 2, 1, 0}} {
		blocks, _ := Pack(4096, make([]uint64, 64), 128)
		for _, k := range order {
			room := blocks[k][:cap(blocks[k])]
			copy(room, bytes.Repeat([]byte{byte(k)}, len(room)))
		}
		for k, block := range blocks {
			if !bytes.Equal(block, bytes.Repeat([]byte{byte(k)}, 128)) {
				t.Errorf("block %d shares memory", k)
			}
		}
	}
}

// P501: nor does an answer with an argument or with another answer.
func TestBitsShare(t *testing.T) {
	words := []uint64{math.MaxUint64, 7}
	want := laid(128, words, 128)
	blocks, _ := Pack(128, words, 128)
	other, _ := Pack(128, words, 128)
	clear(blocks[0][:cap(blocks[0])])
	clear(blocks[:cap(blocks)])
	first, _, _ := Unpack(128, other, 128)
	second, _, _ := Unpack(128, other, 128)
	clear(first[:cap(first)])
	if !sameBlocks(other, want) || !slices.Equal(words, second) || words[1] != 7 {
		t.Error("what was done to an answer is seen elsewhere")
	}
	clear(other[0])
	if !slices.Equal(words, second) {
		t.Error("the words share memory with the blocks")
	}
}
