package walk

import (
	"math"
	"slices"
	"testing"

	"replica/api"
)

// plainExtents: pairs of an extent and its set bits, counted bit by bit.
func plainExtents(n int, words []uint64) [][2]int {
	counts := make([]int, n/4+1)
	for i := range n {
		if isSet(words, i) {
			counts[i/4]++
		}
	}
	var pairs [][2]int
	for extent, count := range counts {
		if count > 0 {
			pairs = append(pairs, [2]int{extent, count})
		}
	}
	return pairs
}

// pairsOf goes over the iterator until it has that many; -1: to its end.
func pairsOf(seq func(func(int, int) bool), most int) [][2]int {
	var pairs [][2]int
	for extent, count := range seq {
		pairs = append(pairs, [2]int{extent, count})
		if len(pairs) == most {
			break
		}
	}
	return pairs
}

// Example 4.
func TestExtentsExample(t *testing.T) {
	got := pairsOf(Extents(70, []uint64{0x05, 0x21}), -1)
	if !slices.Equal(got, [][2]int{{0, 2}, {16, 1}, {17, 1}}) {
		t.Errorf("P1307: %v", got)
	}
	if got := pairsOf(Extents(70, []uint64{0}), -1); got != nil {
		t.Errorf("P1307: %v of a list that is too short", got)
	}
}

// P1307: every list of few bits; the last extent may have fewer than four blocks.
func TestSmallExtents(t *testing.T) {
	for n := 1; n <= 10; n++ {
		for word := range uint64(1) << n {
			got, want := pairsOf(Extents(n, []uint64{word}), -1), plainExtents(n, []uint64{word})
			if !slices.Equal(got, want) {
				t.Fatalf("P1307: %d bits, %x: %v, want %v", n, word, got, want)
			}
		}
	}
}

// P1307: many bits, at the edges of words and of the device.
func TestGreatExtents(t *testing.T) {
	d := dice(1307)
	for _, n := range []int{61, 62, 63, 64, 65, 66, 67, 68, 127, 128, 129, 4095, 4096, 4097, 65533, 65535, 65536} {
		for _, gap := range []int{1, 2, 10, 100, 5000} {
			words := randomWords(&d, n, gap)
			got, want := pairsOf(Extents(n, words), -1), plainExtents(n, words)
			if !slices.Equal(got, want) {
				t.Fatalf("P1307: %d bits, one of %d: %d pairs, want %d", n, gap, len(got), len(want))
			}
		}
		last := pairsOf(Extents(n, wordsOf(n, n-1)), -1)
		if !slices.Equal(last, [][2]int{{(n - 1) / 4, 1}}) {
			t.Errorf("P1307: the last of %d bits: %v", n, last)
		}
		if got := pairsOf(Extents(n, wordsOf(n)), -1); got != nil {
			t.Errorf("P1307: of no set bit: %v", got)
		}
	}
}

// P1307: it gives nothing just where New would refuse, and may be gone over all the same.
func TestExtentsOfWrongLists(t *testing.T) {
	for _, n := range append(sizes, math.MinInt+64, 1<<40) {
		for _, words := range wrongLists(n) {
			var want [][2]int
			if refusal(n, words, 0) == api.OK {
				want = plainExtents(n, words)
			}
			seq := Extents(n, words)
			for range 2 {
				if got := pairsOf(seq, -1); !slices.Equal(got, want) {
					t.Fatalf("P1307: Extents(%d, %d words): %d pairs, want %d", n, len(words), len(got), len(want))
				}
			}
		}
	}
}

// P1307: each time anew from the first, wherever the last loop was left.
func TestExtentsAgain(t *testing.T) {
	d := dice(7)
	words := randomWords(&d, 200, 5)
	want := plainExtents(200, words)
	seq := Extents(200, words)
	for leave := 1; leave <= len(want); leave++ {
		if got := pairsOf(seq, leave); !slices.Equal(got, want[:leave]) {
			t.Fatalf("P1307: left at %d: %v, want %v", leave, got, want[:leave])
		}
		if got := pairsOf(seq, -1); !slices.Equal(got, want) {
			t.Fatalf("P1307: anew: %v, want %v", got, want)
		}
	}
	var outer [][2]int
	for extent, count := range seq {
		outer = append(outer, [2]int{extent, count})
		if got := pairsOf(seq, -1); !slices.Equal(got, want) {
			t.Fatalf("P1307: a loop in a loop: %v, want %v", got, want)
		}
	}
	if !slices.Equal(outer, want) {
		t.Errorf("P1307: around a loop: %v, want %v", outer, want)
	}
}

// P1301, P1307: it goes by the words as they were at the call, and leaves them alone.
func TestExtentsKeepNothing(t *testing.T) {
	whole := []uint64{0x05, 0x21, 0xfeed}
	seq := Extents(70, whole[:2])
	other := Extents(70, whole[:2])
	want := [][2]int{{0, 2}, {16, 1}, {17, 1}}
	if got := pairsOf(other, -1); !slices.Equal(got, want) || !slices.Equal(whole, []uint64{0x05, 0x21, 0xfeed}) {
		t.Fatalf("P1301: %v, and what was handed in became %x", got, whole)
	}
	whole[0] = 0xffff
	if got := pairsOf(seq, -1); !slices.Equal(got, want) {
		t.Errorf("P1307: %v, once the words were written over", got)
	}
	var seen [][2]int
	for extent, count := range seq {
		seen = append(seen, [2]int{extent, count})
		clear(whole)
	}
	if !slices.Equal(seen, want) || !slices.Equal(pairsOf(other, -1), want) {
		t.Errorf("P1307: %v, the words being written over in the loop", seen)
	}
}
