package dump

import (
	"errors"

	"replica/actlog"
	"replica/api"
	"replica/disk"
	"replica/meta"
)

const superSlots = 2

// chosenSuper tells the superblock that holds, and its slot. The slots are found by the disk's end: where they lie by the layout a superblock alone can tell.
func chosenSuper(d *disk.Disk) (api.Super, int, api.Errno) {
	total, _ := d.Geometry()
	held, e := readBlocks(d, total-superSlots, superSlots)
	if e != api.OK {
		return api.Super{}, 0, e
	}
	return meta.Choose(held[0], held[1])
}

// layoutOn tells where the superblock's parts lie; false: the disk is of another form.
func layoutOn(d *disk.Disk, super api.Super) (api.Layout, bool) {
	total, size := d.Geometry()
	l, e := meta.Plan(super.Blocks, super.Size, super.Slots)
	if e != api.OK || l.Size != size || l.Total != total {
		return api.Layout{}, false
	}
	return l, true
}

func readBits(d *disk.Disk, l api.Layout) ([]uint64, api.Errno) {
	area, e := readBlocks(d, l.Bitmap, l.BitmapBlocks)
	if e != api.OK {
		return nil, e
	}
	words, lost, e := meta.Unpack(l.Blocks, area, l.Size)
	if lost {
		return nil, api.ErrMedium
	}
	return words, e
}

func readSlots(d *disk.Disk, l api.Layout) ([]int, api.Errno) {
	ring, e := readBlocks(d, l.Log, l.LogBlocks)
	if e != api.OK {
		return nil, e
	}
	row, _, e := actlog.Replay(l.Slots, extentCount(l.Blocks), ring)
	if e != api.OK {
		return nil, api.ErrRecord
	}
	return row, api.OK
}

// readBlocks reads blocks from first on; one that cannot be read is nil. Without power it is no matter of one block: that is an error.
func readBlocks(d *disk.Disk, first int, count int) ([][]byte, api.Errno) {
	blocks := make([][]byte, count)
	for k := range blocks {
		data, err := d.Read(first + k)
		if errors.Is(err, api.ErrPower) {
			return nil, api.ErrPower
		}
		blocks[k] = data
	}
	return blocks, api.OK
}

// layDump writes m where l says; slot is the one whose superblock holds until now. That one goes last of the old ones, and the new one comes last of all: whatever happens in between, no superblock speaks of metadata that are not its own.
func layDump(d *disk.Disk, l api.Layout, slot int, m api.Dump) api.Errno {
	area, _ := meta.Pack(l.Blocks, m.Bits, l.Size)
	seal, _ := meta.Seal(m.Super)
	parts := []struct {
		first  int
		blocks [][]byte
	}{
		{l.Super + 1 - slot, blankBlocks(1, l.Size)},
		{l.Super + slot, blankBlocks(1, l.Size)},
		{l.Bitmap, area},
		{l.Log, ringOf(m.Slots, l.Size)},
		{l.Super, [][]byte{seal}},
	}
	for _, part := range parts {
		if e := layBlocks(d, part.first, part.blocks); e != api.OK {
			return e
		}
	}
	return api.OK
}

// layBlocks writes blocks, past the cache, in their order from first on. They are the disk's own and as long as those are: nothing but the power refuses them.
func layBlocks(d *disk.Disk, first int, blocks [][]byte) api.Errno {
	for k, block := range blocks {
		if err := d.Through(first+k, block); err != nil {
			return api.ErrPower
		}
	}
	return api.OK
}

func blankBlocks(count int, size int) [][]byte {
	blocks := make([][]byte, count)
	for k := range blocks {
		blocks[k] = make([]byte, size)
	}
	return blocks
}
