package store

import (
	"bytes"
	"errors"

	"replica/api"
	"replica/disk"
)

// number takes the number out of an error of the disk.
func number(err error) api.Errno {
	var e api.Errno
	if !errors.As(err, &e) {
		return api.OK
	}
	return e
}

// readBlocks reads blocks from first on; one that cannot be read is nil. Without power it is no matter of one block: that is an error.
func readBlocks(d *disk.Disk, first int, count int) ([][]byte, api.Errno) {
	blocks := make([][]byte, count)
	for k := range blocks {
		data, err := d.Read(first + k)
		if number(err) == api.ErrPower {
			return nil, api.ErrPower
		}
		blocks[k] = data
	}
	return blocks, api.OK
}

// layBlocks writes blocks, past the cache, in their order from first on; one that is nil is left out.
func layBlocks(d *disk.Disk, first int, blocks [][]byte) api.Errno {
	for k, block := range blocks {
		if block == nil {
			continue
		}
		if e := number(d.Through(first+k, block)); e != api.OK {
			return e
		}
	}
	return api.OK
}

func blankBlocks(count int, size int) [][]byte {
	blocks := make([][]byte, count)
	for k := range blocks {
		blocks[k] = make([]byte, size)
	}
	return blocks
}

// changedBlocks gives blocks with nil for each that lies in its place already.
func changedBlocks(blocks [][]byte, held [][]byte) [][]byte {
	changed := make([][]byte, len(blocks))
	for k, block := range blocks {
		if !bytes.Equal(block, held[k]) {
			changed[k] = block
		}
	}
	return changed
}

func extentOf(block int) int { return block / api.ExtentBlocks }

// extentCount tells how many extents that many blocks have.
func extentCount(blocks int) int { return extentOf(blocks-1) + 1 }
