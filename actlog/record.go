package actlog

import (
	"bytes"

	"replica/api"
	"replica/digest"
)

const (
	letters     = "actl"
	contextSize = 4 // slots that a record's context names
	contextAt   = 28
	wordSize    = 4
	sumSize     = 4
	maxAge      = 1<<16 - 1
)

// record: a transaction record's fields; an extent that is not there is -1.
type record struct {
	number  uint32
	age     int
	slots   int
	change  api.Change
	start   int // the first slot that the context names
	context [contextSize]int
}

// contextFrom gives the extents of the slots from start on, going round.
func contextFrom(row []int, start int) [contextSize]int {
	var context [contextSize]int
	for n := 0; n < contextSize; start = 0 {
		n += copy(context[n:], row[start:])
	}
	return context
}

// lay puts what the record says into a row of slots.
func (r record) lay(row []int) {
	start := r.start
	for n := 0; n < contextSize; start = 0 {
		n += copy(row[start:], r.context[n:])
	}
	row[r.change.Slot] = r.change.Extent
}

// block gives the record as a block of size bytes.
func (r record) block(size int) []byte {
	block := make([]byte, size)
	copy(block, letters)
	put(block[4:8], r.number)
	put(block[8:10], uint32(r.age))
	put(block[10:12], uint32(r.slots))
	put(block[12:16], uint32(r.change.Slot))
	put(block[16:20], uint32(r.change.Extent))
	put(block[20:24], uint32(r.change.Old))
	put(block[24:28], uint32(r.start))
	for i, extent := range r.context {
		put(contextWord(block, i), uint32(extent))
	}
	put(block[size-sumSize:], digest.Crc(block[:size-sumSize]))
	return block
}

// parse reads a block's fields. Whether the letters, the zeroes and the sum are right, writing the fields anew tells.
func parse(block []byte) (record, bool) {
	r := record{
		number: take(block[4:8]),
		age:    int(take(block[8:10])),
		slots:  int(take(block[10:12])),
		change: api.Change{
			Slot:   signed(block[12:16]),
			Extent: signed(block[16:20]),
			Old:    signed(block[20:24]),
		},
		start: signed(block[24:28]),
	}
	for i := range contextSize {
		r.context[i] = signed(contextWord(block, i))
	}
	return r, bytes.Equal(block, r.block(len(block)))
}

func contextWord(block []byte, i int) []byte {
	at := contextAt + i*wordSize
	return block[at : at+wordSize]
}

// put writes a number into the whole of place, the highest byte first.
func put(place []byte, number uint32) {
	for i := len(place) - 1; i >= 0; i-- {
		place[i] = byte(number)
		number >>= 8
	}
}

// take reads what put writes.
func take(place []byte) uint32 {
	var number uint32
	for _, b := range place {
		number = number<<8 | uint32(b)
	}
	return number
}

// signed reads a word so that ffffffff is -1; what is negative else, no slot and no extent can be.
func signed(place []byte) int { return int(int32(take(place))) }

// valid tells whether a log of that many slots and extents may have written the record.
func (r record) valid(slots int, extents int) bool {
	return r.slots == slots &&
		r.change.Slot >= 0 && r.change.Slot < slots &&
		r.start >= 0 && r.start < slots && r.startFitsAge() &&
		r.extentsBelow(extents) && r.contextAgrees()
}

// startFitsAge: at the greatest age nobody knows how many records went ahead.
func (r record) startFitsAge() bool {
	return r.age == maxAge || r.start == r.age*contextSize%r.slots
}

func (r record) extentsBelow(extents int) bool {
	for _, extent := range r.context {
		if extent < noExtent || extent >= extents {
			return false
		}
	}
	return r.change.Extent >= 0 && r.change.Extent < extents &&
		r.change.Old >= noExtent && r.change.Old < extents &&
		r.change.Old != r.change.Extent
}

// contextAgrees tells whether the context says one thing of each slot, and of the change's slot what the change says: then, once laid, it can be read back.
func (r record) contextAgrees() bool {
	row := freeRow(r.slots)
	r.lay(row)
	return contextFrom(row, r.start) == r.context
}

// follows tells whether the record may be the next of its run behind before.
func (r record) follows(before record) bool {
	return r.age == min(before.age+1, maxAge) && r.start == (before.start+contextSize)%r.slots
}
