package store

import (
	"slices"

	"replica/api"
	"replica/bitmap"
	"replica/meta"
)

// lastSeq is the number of a superblock that is not written again.
const lastSeq = 1 << 62

// Mark marks a block, durably; whether it was clean.
func (s *Store) Mark(block int) (bool, api.Errno) {
	if e := s.check(block); e != api.OK {
		return false, e
	}
	one, _ := bitmap.New(s.layout.Blocks)
	one.Set(block)
	fresh, e := s.MarkWords(one.Words())
	return fresh == 1, e
}

// MarkWords marks, durably, every block that is set in words; how many were clean.
func (s *Store) MarkWords(words []uint64) (int, api.Errno) {
	if s.down {
		return 0, api.ErrPower
	}
	all, e := bitmap.Union(s.layout.Blocks, s.stored.Words(), words)
	if e != api.OK {
		return 0, e
	}
	if e := s.store(all); e != api.OK {
		return 0, e
	}
	fresh, _ := s.marks.Merge(words)
	// Mark is above no marked block at any time, so the least of all comes to the same as the least of words.
	s.super.Mark = min(s.super.Mark, s.least())
	return fresh, api.OK
}

// Clean takes a block's mark away, in memory alone until the next Checkpoint; whether it was marked.
func (s *Store) Clean(block int) (bool, api.Errno) {
	if e := s.check(block); e != api.OK {
		return false, e
	}
	return s.marks.Clear(block)
}

// Checkpoint makes the bitmap durable as it is, and then notes in the superblock how far the resync has come.
func (s *Store) Checkpoint() api.Errno {
	if s.down {
		return api.ErrPower
	}
	if s.full() {
		return api.ErrFull
	}
	if e := s.store(s.marks.Words()); e != api.OK {
		return e
	}
	next := s.super
	next.Mark = s.least()
	return s.writeSuper(next)
}

// SetGens writes identifiers and flags into the superblock.
func (s *Store) SetGens(gens api.Gens, flags uint32) api.Errno {
	if s.down {
		return api.ErrPower
	}
	if flags > allFlags {
		return api.ErrArg
	}
	if s.full() {
		return api.ErrFull
	}
	next := s.super
	next.Gens, next.Flags = gens, flags
	return s.writeSuper(next)
}

// full tells whether the superblock's number has come to its end.
func (s *Store) full() bool { return s.super.Seq >= lastSeq }

// writeSuper leaves the slot of the last superblock alone, so that one of the two is whole at any time.
func (s *Store) writeSuper(next api.Super) api.Errno {
	next.Seq++
	slot := 1 - s.slot
	block, _ := meta.Seal(next)
	if e := s.met(number(s.disk.Through(s.layout.Super+slot, block))); e != api.OK {
		return e
	}
	s.super, s.slot = next, slot
	return api.OK
}

// store makes words the stored bitmap.
func (s *Store) store(words []uint64) api.Errno {
	return s.save(words, s.packed(s.stored.Words()))
}

// save makes words the stored bitmap, where the bitmap's area holds held.
func (s *Store) save(words []uint64, held [][]byte) api.Errno {
	changed := changedBlocks(s.packed(words), held)
	if e := s.met(layBlocks(s.disk, s.layout.Bitmap, changed)); e != api.OK {
		return e
	}
	s.stored, _ = bitmap.From(s.layout.Blocks, words)
	return api.OK
}

// packed gives words as the blocks of the bitmap's area.
func (s *Store) packed(words []uint64) [][]byte {
	blocks, _ := meta.Pack(s.layout.Blocks, words, s.layout.Size)
	return blocks
}

// least tells the least marked block, or Blocks: what a superblock calls Mark.
func (s *Store) least() int {
	if first := s.marks.Next(0); first >= 0 {
		return first
	}
	return s.layout.Blocks
}

// Marked tells how many blocks are marked.
func (s *Store) Marked() int {
	if s.down {
		return 0
	}
	return s.marks.Count()
}

// Bits tells the words of the bitmap.
func (s *Store) Bits() []uint64 {
	if s.down {
		return nil
	}
	return s.marks.Words()
}

// Next tells the least marked block at or above from; -1: none.
func (s *Store) Next(from int) int {
	if s.down {
		return -1
	}
	return s.marks.Next(from)
}

// Stored tells the words of the bitmap as they are durable.
func (s *Store) Stored() []uint64 {
	if s.down {
		return nil
	}
	return s.stored.Words()
}

// Hot tells the hot extents, rising.
func (s *Store) Hot() []int {
	if s.down {
		return nil
	}
	return s.log.Hot()
}

// Records tells how many records the activity log has written since Open.
func (s *Store) Records() int { return s.records }

// Covered tells the extents that a recovery of this moment would mark or find marked, were the node primary: rising.
func (s *Store) Covered() []int {
	if s.down {
		return nil
	}
	// Until the first record nothing is hot; from then on nothing is named.
	covered := slices.Concat(s.named, s.log.Hot())
	for block := range s.stored.All() {
		covered = append(covered, extentOf(block))
	}
	slices.Sort(covered)
	return slices.Compact(covered)
}
