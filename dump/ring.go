package dump

import (
	"slices"

	"replica/actlog"
	"replica/digest"
)

const (
	recordLetters = "actl"
	contextSize   = 4 // slots that a record's context names
	longSize      = 4
	shortSize     = 2
	byteBits      = 8
)

// ringOf gives the blocks of a ring that tells row, as a log would have written it in one run from number 0 on.
func ringOf(row []int, size int) [][]byte {
	ring := blankBlocks(actlog.Ring(len(row)), size)
	taken := slices.IndexFunc(row, func(extent int) bool { return extent != noExtent })
	if taken < 0 {
		return ring
	}
	for i := range ring {
		ring[i] = record(row, taken, i, size)
	}
	return ring
}

// record gives the record numbered i. Every record of the ring has the same change, of the slot taken, which puts there what the contexts say already.
func record(row []int, taken int, i int, size int) []byte {
	start := contextSize * i % len(row)
	block := append(make([]byte, 0, size), recordLetters...)
	block = appendNumber(block, longSize, i)
	block = appendNumber(block, shortSize, i)
	block = appendNumber(block, shortSize, len(row))
	for _, n := range [...]int{taken, row[taken], noExtent, start} {
		block = appendNumber(block, longSize, n)
	}
	for k := range contextSize {
		block = appendNumber(block, longSize, row[(start+k)%len(row)])
	}
	block = append(block, make([]byte, size-longSize-len(block))...)
	return appendNumber(block, longSize, int(digest.Crc(block)))
}

// appendNumber writes a number behind block in width bytes, the highest first.
func appendNumber(block []byte, width int, number int) []byte {
	for shift := byteBits * (width - 1); shift >= 0; shift -= byteBits {
		block = append(block, byte(number>>shift))
	}
	return block
}
