package inspect

import (
	"bytes"

	"replica/api"
	"replica/bitmap"
	"replica/disk"
)

// numbers is a set of blocks.
type numbers map[int]struct{}

func (n numbers) has(block int) bool {
	_, in := n[block]
	return in
}

// lookedAt gathers the blocks at which two nodes with those metadata look, by that verdict.
func lookedAt(first, second api.Dump, v api.Verdict, why api.Errno) numbers {
	bits, _ := bitmap.New(first.Super.Blocks)
	if why == api.OK {
		switch v.Kind {
		case api.SourceBits, api.TargetBits:
			bits.Merge(first.Bits)
			bits.Merge(second.Bits)
		case api.SourceFull, api.TargetFull:
			bits.SetRange(0, bits.Len())
		}
	}
	set := numbers{}
	for block := range bits.All() {
		set[block] = struct{}{}
	}
	return set
}

// listBlocks tells which of the first count blocks are looked at, are shipped, and stay unlike.
func listBlocks(a, b *disk.Disk, count int, v api.Verdict, marked numbers) api.Forecast {
	source := a
	if v.Kind == api.TargetBits || v.Kind == api.TargetFull {
		source = b
	}
	differs := func(block int) bool { return !alike(a, b, block) }
	ships := func(block int) bool {
		_, readable := durable(source, block)
		return readable && marked.has(block) && differs(block)
	}
	hides := func(block int) bool { return differs(block) && !ships(block) }
	return api.Forecast{
		Marked: blocksThat(marked.has, count),
		Ship:   blocksThat(ships, count),
		Hidden: blocksThat(hides, count),
	}
}

// blocksThat lists those of the first count blocks that are taken.
func blocksThat(taken func(block int) bool, count int) []int {
	var list []int
	for block := range count {
		if taken(block) {
			list = append(list, block)
		}
	}
	return list
}

// alike tells whether both disks have, durably, the same bytes there.
func alike(a, b *disk.Disk, block int) bool {
	mine, ok := durable(a, block)
	other, fine := durable(b, block)
	return ok && fine && bytes.Equal(mine, other)
}
