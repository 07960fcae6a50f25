package actlog

import "replica/api"

// Ring tells how many records the ring holds, for that many slots: the record numbered k lies at place k mod Ring.
func Ring(slots int) int {
	switch {
	case !validSlots(slots):
		return 0
	case slots <= contextSize:
		return 1
	case slots <= 2*contextSize:
		return 2
	}
	return 4
}

// Replay reads a ring's records (each of size bytes; nil: unreadable): the extent in each slot, the number that the next record gets.
func Replay(slots int, extents int, ring [][]byte) ([]int, uint32, api.Errno) {
	if !validSlots(slots) || !validExtents(extents) {
		return nil, 0, api.ErrArg
	}
	if len(ring) != Ring(slots) {
		return nil, 0, api.ErrSize
	}
	held, ok := readPlaces(slots, extents, ring)
	if !ok {
		return nil, 0, api.ErrRecord
	}
	if held.blank() {
		return freeRow(slots), 0, api.OK
	}
	newest, ok := held.newest()
	if !ok {
		return nil, 0, api.ErrRecord
	}
	run, ok := held.run(newest)
	if !ok {
		return nil, 0, api.ErrRecord
	}
	row := freeRow(slots)
	for i := len(run) - 1; i >= 0; i-- {
		run[i].lay(row)
	}
	return row, newest.number + 1, api.OK
}

// place: what a place of a ring holds: a record, or nothing (it is blank).
type place struct {
	record
	filled bool
}

// places: those of a ring, each record where its number wants it.
type places []place

// readPlaces tells false if some place is neither blank nor a record that may lie there.
func readPlaces(slots int, extents int, ring [][]byte) (places, bool) {
	held := make(places, len(ring))
	for i, block := range ring {
		if len(block) != len(ring[0]) || !validSize(len(block)) {
			return nil, false
		}
		if isBlank(block) {
			continue
		}
		r, ok := parse(block)
		if !ok || !r.valid(slots, extents) || held.index(r.number) != i {
			return nil, false
		}
		held[i] = place{record: r, filled: true}
	}
	return held, true
}

func isBlank(block []byte) bool {
	for _, b := range block {
		if b != 0 {
			return false
		}
	}
	return true
}

// index tells the place that the record of that number is meant for.
func (p places) index(number uint32) int { return int(number % uint32(len(p))) }

func (p places) at(number uint32) place { return p[p.index(number)] }

func (p places) blank() bool {
	for _, held := range p {
		if held.filled {
			return false
		}
	}
	return true
}

// newest gives the record behind which none was written; false: the numbers are not those of a ring.
func (p places) newest() (record, bool) {
	for _, held := range p {
		if held.filled && p.endAt(held.number) {
			return held.record, true
		}
	}
	return record{}, false
}

// endAt tells whether, going back from that number, the places hold the numbers ahead of it, and behind these but blanks.
func (p places) endAt(number uint32) bool {
	blanks := false
	for back := range len(p) {
		wanted := number - uint32(back)
		held := p.at(wanted)
		if held.filled && (blanks || held.number != wanted) {
			return false
		}
		blanks = blanks || !held.filled
	}
	return true
}

// run gives the records of the newest one's run that the ring still has room for, the newest first; false: one is missing, or does not belong to it.
func (p places) run(newest record) ([]record, bool) {
	run := []record{newest}
	for back := 1; back < len(p) && back <= newest.age; back++ {
		before := p.at(newest.number - uint32(back))
		if !before.filled || !run[back-1].follows(before.record) {
			return nil, false
		}
		run = append(run, before.record)
	}
	return run, true
}
