package store

import (
	"replica/api"
	"replica/bitmap"
	"replica/disk"
	"replica/meta"
)

const (
	superSlots = 2
	allFlags   = api.FlagConsistent | api.FlagOutdated | api.FlagPrimary | api.FlagCrashed
)

// Format writes fresh metadata onto the disk: blocks data blocks, an activity log of slots slots, those identifiers and flags; marked: every block is marked, else none. The data are left as they are.
func Format(d *disk.Disk, blocks int, slots int, gens api.Gens, flags uint32, marked bool) api.Errno {
	if d == nil {
		return api.ErrArg
	}
	total, size := d.Geometry()
	l, e := meta.Plan(blocks, size, slots)
	if e != api.OK || flags > allFlags {
		return api.ErrArg
	}
	if l.Total != total {
		return api.ErrSize
	}
	super := api.Super{Seq: 1, Blocks: blocks, Size: size, Slots: slots, Gens: gens, Flags: flags, Mark: blocks}
	if marked {
		super.Mark = 0
	}
	return layFresh(d, l, super)
}

// layFresh takes the old superblocks away first and lays the new one last: whatever happens in between, no superblock speaks of metadata that are not its own.
func layFresh(d *disk.Disk, l api.Layout, super api.Super) api.Errno {
	marks, _ := bitmap.New(l.Blocks)
	marks.SetRange(super.Mark, l.Blocks-super.Mark)
	area, _ := meta.Pack(l.Blocks, marks.Words(), l.Size)
	seal, _ := meta.Seal(super)
	parts := []struct {
		first  int
		blocks [][]byte
	}{
		{l.Super, blankBlocks(superSlots, l.Size)},
		{l.Bitmap, area},
		{l.Log, blankBlocks(l.LogBlocks, l.Size)},
		{l.Super, [][]byte{seal}},
	}
	for _, part := range parts {
		if e := layBlocks(d, part.first, part.blocks); e != api.OK {
			return e
		}
	}
	return api.OK
}
