package bitmap

import "iter"

// All gives the set bits in rising order; what is changed ahead of the place while it runs is seen.
func (m *Bitmap) All() iter.Seq[int] {
	return func(yield func(int) bool) {
		place := 0
		for {
			i := m.Next(place)
			if i < 0 || !yield(i) {
				return
			}
			place = i + 1
		}
	}
}

// Runs gives the runs of set bits in rising order: the first bit and the length.
func (m *Bitmap) Runs() iter.Seq2[int, int] {
	return func(yield func(int, int) bool) {
		place := 0
		for {
			first := m.Next(place)
			if first < 0 {
				return
			}
			// The end is asked for ahead of the body, which may change what stands there.
			end := m.endOfRun(first)
			if !yield(first, end-first) {
				return
			}
			place = end
		}
	}
}

func (m *Bitmap) endOfRun(first int) int {
	if end := m.NextClear(first); end >= 0 {
		return end
	}
	return m.n
}

// pieces gives, for the bits from first up to end (which it leaves out), each word that has any of them, and these as a mask.
func pieces(first int, end int) iter.Seq2[int, uint64] {
	return func(yield func(int, uint64) bool) {
		for place := first; place < end; {
			k := place / wordBits
			stop := min(end, (k+1)*wordBits)
			mask := ^uint64(0) >> (wordBits - (stop - place)) << (place % wordBits)
			if !yield(k, mask) {
				return
			}
			place = stop
		}
	}
}
