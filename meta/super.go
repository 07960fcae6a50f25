package meta

import (
	"replica/api"
	"replica/digest"
)

const (
	letters   = "REPLICA1"
	longSize  = 8
	shortSize = 4
	sealSize  = 32
	maxSeq    = 1 << 62
	allFlags  = api.FlagConsistent | api.FlagOutdated | api.FlagPrimary | api.FlagCrashed
)

// Seal writes a superblock as a block of s.Size bytes.
func Seal(s api.Super) ([]byte, api.Errno) {
	if !validSuper(s) {
		return nil, api.ErrField
	}
	block := append(make([]byte, 0, s.Size), letters...)
	block = appendNumber(block, longSize, s.Seq)
	for _, n := range [...]int{s.Blocks, s.Size, s.Slots, s.Mark} {
		block = appendNumber(block, shortSize, uint64(n))
	}
	for _, id := range [...]uint64{s.Gens.Current, s.Gens.Bitmap, s.Gens.Old1, s.Gens.Old2} {
		block = appendNumber(block, longSize, id)
	}
	block = appendNumber(block, shortSize, uint64(s.Flags))
	block = append(block, make([]byte, s.Size-sealSize-len(block))...)
	seal := digest.Sum256(block)
	return append(block, seal[:]...), api.OK
}

// Unseal reads what Seal writes.
func Unseal(block []byte) (s api.Super, e api.Errno) {
	if !validSize(len(block)) {
		return api.Super{}, api.ErrSize
	}
	defer func() {
		if fault, ok := recover().(api.Errno); ok {
			s, e = api.Super{}, fault
		}
	}()
	return readSuper(block), api.OK
}

// Choose reads the two slots (nil: unreadable): the newer superblock that is whole, and its slot.
func Choose(first []byte, second []byte) (api.Super, int, api.Errno) {
	a, errA := Unseal(first)
	b, errB := Unseal(second)
	switch {
	case errA != api.OK && errB != api.OK:
		return api.Super{}, 0, api.ErrSuper
	case errA != api.OK:
		return b, 1, api.OK
	case errB != api.OK || a == b || a.Seq >= b.Seq:
		return a, 0, api.OK
	}
	return b, 1, api.OK
}

func validSuper(s api.Super) bool {
	return s.Seq >= 1 && s.Seq <= maxSeq &&
		validBlocks(s.Blocks) && validSize(s.Size) && validSlots(s.Slots) &&
		s.Flags&^allFlags == 0 &&
		s.Mark >= 0 && s.Mark <= s.Blocks
}

// appendNumber writes number behind block in width bytes, the highest first.
func appendNumber(block []byte, width int, number uint64) []byte {
	for shift := byteBits * (width - 1); shift >= 0; shift -= byteBits {
		block = append(block, byte(number>>shift))
	}
	return block
}
