package meta

import "replica/api"

const (
	wordBits  = 64
	wordBytes = wordBits / byteBits
)

// Pack writes a bitmap of n bits as blocks of size bytes.
func Pack(n int, words []uint64, size int) ([][]byte, api.Errno) {
	if !validBits(n) || !validSize(size) {
		return nil, api.ErrArg
	}
	if len(words) != wordCount(n) {
		return nil, api.ErrSize
	}
	if words[len(words)-1]&^lastMask(n) != 0 {
		return nil, api.ErrRange
	}
	blocks := make([][]byte, areaBlocks(n, size))
	for k := range blocks {
		blocks[k] = make([]byte, size)
	}
	for i, word := range words {
		block, at := wordPlace(i, size)
		for k := range wordBytes {
			blocks[block][at+k] = byte(word >> (byteBits * k))
		}
	}
	return blocks, api.OK
}

// Unpack reads what Pack writes; a block that is nil (unreadable) counts as all set. It tells the words, and whether a block was nil.
func Unpack(n int, blocks [][]byte, size int) ([]uint64, bool, api.Errno) {
	if !validBits(n) || !validSize(size) {
		return nil, false, api.ErrArg
	}
	if len(blocks) != areaBlocks(n, size) {
		return nil, false, api.ErrSize
	}
	lost := false
	for _, block := range blocks {
		if len(block) != 0 && len(block) != size {
			return nil, false, api.ErrSize
		}
		lost = lost || len(block) == 0
	}
	words := make([]uint64, wordCount(n))
	for i := range words {
		block, at := wordPlace(i, size)
		words[i] = wordAt(blocks[block], at)
	}
	words[len(words)-1] &= lastMask(n)
	return words, lost, api.OK
}

func validBits(n int) bool { return n >= 1 && n <= api.MaxBits }

func wordCount(n int) int { return (n + wordBits - 1) / wordBits }

// lastMask has the bits of the last of n bits' words that lie below n.
func lastMask(n int) uint64 { return ^uint64(0) >> (-n & (wordBits - 1)) }

// wordPlace tells the block of word i and its first byte there; no word lies in two blocks, as each size is a multiple of a word's bytes.
func wordPlace(i int, size int) (int, int) {
	at := i * wordBytes
	return at / size, at % size
}

// wordAt reads the word at a place of a block. Each bit of an unreadable block counts as set: a block too many is looked at, none too few.
func wordAt(block []byte, at int) uint64 {
	if len(block) == 0 {
		return ^uint64(0)
	}
	var word uint64
	for k := range wordBytes {
		word |= uint64(block[at+k]) << (byteBits * k)
	}
	return word
}
