package store

import (
	"slices"

	"replica/actlog"
	"replica/api"
	"replica/bitmap"
	"replica/disk"
	"replica/meta"
)

// recovery: a store that is being opened, and what was found on its disk so far.
type recovery struct {
	*Store
	told   api.Recovery
	held   [][]byte // the bitmap's area as stored; an unreadable block is nil, so that it is written whatever its bits are
	broken bool     // the ring
}

// step is one act of a recovery; with an error it gives the whole up.
type step struct {
	act func(*recovery) api.Errno
}

// steps are taken in their order: each leans on what those ahead of it found.
func steps() []step {
	return []step{
		{(*recovery).chooseSuper},
		{(*recovery).planLayout},
		{(*recovery).readBitmap},
		{(*recovery).readRing},
		{(*recovery).markAll},
		{(*recovery).markHot},
		{(*recovery).storeMarks},
		{(*recovery).blankRing},
		{(*recovery).lowerMark},
	}
}

// Open recovers what is on the disk.
func Open(d *disk.Disk) (*Store, api.Recovery, api.Errno) {
	if d == nil {
		return nil, api.Recovery{}, api.ErrArg
	}
	r := recovery{Store: &Store{disk: d}}
	for _, step := range steps() {
		if e := step.act(&r); e != api.OK {
			return nil, api.Recovery{}, e
		}
	}
	return r.Store, r.told, api.OK
}

// chooseSuper finds the slots by the disk's end: where they lie by the layout the superblock alone can tell.
func (r *recovery) chooseSuper() api.Errno {
	total, _ := r.disk.Geometry()
	slots, e := readBlocks(r.disk, total-superSlots, superSlots)
	if e != api.OK {
		return e
	}
	r.super, r.slot, e = meta.Choose(slots[0], slots[1])
	r.told.Slot = r.slot
	r.told.Crashed = r.super.Flags&api.FlagPrimary != 0
	return e
}

func (r *recovery) planLayout() api.Errno {
	total, size := r.disk.Geometry()
	l, e := meta.Plan(r.super.Blocks, r.super.Size, r.super.Slots)
	if e != api.OK || l.Size != size || l.Total != total {
		return api.ErrField
	}
	r.layout = l
	return api.OK
}

func (r *recovery) readBitmap() api.Errno {
	area, e := readBlocks(r.disk, r.layout.Bitmap, r.layout.BitmapBlocks)
	if e != api.OK {
		return e
	}
	words, lost, _ := meta.Unpack(r.layout.Blocks, area, r.layout.Size)
	r.marks, _ = bitmap.From(r.layout.Blocks, words)
	r.told.AllBits = lost
	r.held = r.packed(words)
	for k, block := range area {
		if block == nil {
			r.held[k] = nil
		}
	}
	return api.OK
}

// readRing takes what the ring says; of a broken one that is nothing, and its numbers begin anew.
func (r *recovery) readRing() api.Errno {
	ring, e := readBlocks(r.disk, r.layout.Log, r.layout.LogBlocks)
	if e != api.OK {
		return e
	}
	extents := extentCount(r.layout.Blocks)
	slots, first, e := actlog.Replay(r.layout.Slots, extents, ring)
	r.broken = e != api.OK
	r.told.AllBits = r.told.AllBits || r.broken
	r.named = namedExtents(slots)
	r.log, _ = actlog.New(r.layout.Slots, extents, r.layout.Size, first)
	return api.OK
}

// namedExtents gives the extents that are in slots, rising, each once.
func namedExtents(slots []int) []int {
	named := slices.DeleteFunc(slices.Clone(slots), func(extent int) bool { return extent < 0 })
	slices.Sort(named)
	return slices.Compact(named)
}

// markAll: where part of the metadata is lost any block may be one that the other side lacks.
func (r *recovery) markAll() api.Errno {
	if r.told.AllBits {
		r.marks.SetRange(0, r.layout.Blocks)
	}
	return api.OK
}

func (r *recovery) markHot() api.Errno {
	if !r.told.Crashed {
		return api.OK
	}
	r.told.Hot = slices.Clone(r.named)
	for _, extent := range r.told.Hot {
		first := extent * api.ExtentBlocks
		r.marks.SetRange(first, min(api.ExtentBlocks, r.layout.Blocks-first))
	}
	return api.OK
}

func (r *recovery) storeMarks() api.Errno { return r.save(r.marks.Words(), r.held) }

// blankRing comes behind storeMarks: a ring that is broken tells the next recovery to mark all, until the marks are durable.
func (r *recovery) blankRing() api.Errno {
	if !r.broken {
		return api.OK
	}
	return layBlocks(r.disk, r.layout.Log, blankBlocks(r.layout.LogBlocks, r.layout.Size))
}

func (r *recovery) lowerMark() api.Errno {
	r.super.Mark = min(r.super.Mark, r.least())
	return api.OK
}
