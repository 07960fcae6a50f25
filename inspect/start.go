package inspect

import (
	"errors"

	"replica/actlog"
	"replica/api"
	"replica/disk"
	"replica/store"
)

// durable gives the durable bytes of a block; false: it is unreadable.
func durable(d *disk.Disk, block int) ([]byte, bool) {
	data, err := d.Durable(block)
	return data, !errors.Is(err, api.ErrMedium)
}

// durableCopy gives a disk of its own with what d holds durably: what is done to it d never learns of, and d's cache, power and fuse count for nothing.
func durableCopy(d *disk.Disk) *disk.Disk {
	blocks, size := d.Geometry()
	twin, _ := disk.New(blocks, size)
	for block := range blocks {
		if data, ok := durable(d, block); ok {
			twin.Through(block, data)
		} else {
			twin.Spoil(block)
		}
	}
	return twin
}

// started does to the disk what a node's start does, and tells the metadata behind it.
func started(d *disk.Disk, c api.Config) (api.Dump, api.Errno) {
	s, found, e := store.Open(d)
	if e != api.OK {
		return api.Dump{}, e
	}
	super := s.Super()
	if super.Blocks != c.Blocks || super.Size != c.Size || super.Slots != c.Slots {
		return api.Dump{}, api.ErrField
	}
	if found.Crashed {
		if e := s.SetGens(super.Gens, super.Flags&^api.FlagPrimary|api.FlagCrashed); e != api.OK {
			return api.Dump{}, e
		}
	}
	return api.Dump{Super: s.Super(), Bits: s.Bits(), Slots: slotsOn(d, s.Layout())}, api.OK
}

// slotsOn tells the extent in each slot of the activity log, behind a recovery: that leaves no broken ring.
func slotsOn(d *disk.Disk, l api.Layout) []int {
	ring := make([][]byte, l.LogBlocks)
	for k := range ring {
		ring[k], _ = durable(d, l.Log+k)
	}
	extents := (l.Blocks + api.ExtentBlocks - 1) / api.ExtentBlocks
	slots, _, _ := actlog.Replay(l.Slots, extents, ring)
	return slots
}
