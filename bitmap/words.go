package bitmap

import "replica/api"

// Merge sets every bit that is set in words; it tells how many were clear.
func (m *Bitmap) Merge(words []uint64) (int, api.Errno) {
	if e := checkWords(m.n, words); e != api.OK {
		return 0, e
	}
	changed := 0
	for k, word := range words {
		changed += m.lay(k, m.lower[k]|word)
	}
	return changed, api.OK
}

// Union tells the words of n bits that are set in any of those lists.
func Union(n int, lists ...[]uint64) ([]uint64, api.Errno) {
	union, e := New(n)
	if e != api.OK {
		return nil, e
	}
	for _, words := range lists {
		m, e := From(n, words)
		if e != api.OK {
			return nil, e
		}
		for first, count := range m.Runs() {
			union.SetRange(first, count)
		}
	}
	return union.Words(), api.OK
}

// checkWords tells whether words may stand as the lower level of n bits.
func checkWords(n int, words []uint64) api.Errno {
	if len(words) != wordsFor(n) {
		return api.ErrSize
	}
	// Where n mod 64 is 0 every bit of the last word exists, and a shift by 0 would take them all for too many.
	if used := n % wordBits; used != 0 && words[len(words)-1]>>used != 0 {
		return api.ErrRange
	}
	return api.OK
}
