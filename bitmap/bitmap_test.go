package bitmap

import (
	"math"
	"slices"
	"testing"

	"replica/api"
)

func made(t *testing.T, n int, set ...int) *Bitmap {
	t.Helper()
	m, e := New(n)
	if m == nil || e != api.OK {
		t.Fatalf("New(%d): %v, %d", n, m, e)
	}
	for _, i := range set {
		if was, e := m.Set(i); !was || e != api.OK {
			t.Fatalf("Set(%d) of %d bits: %v, %d", i, n, was, e)
		}
	}
	return m
}

func wantInt(t *testing.T, what string, got int, e api.Errno, want int, wantErr api.Errno) {
	t.Helper()
	if got != want || e != wantErr {
		t.Errorf("%s: %d, %d, want %d, %d", what, got, e, want, wantErr)
	}
}

func wantBool(t *testing.T, what string, got bool, e api.Errno, want bool, wantErr api.Errno) {
	t.Helper()
	if got != want || e != wantErr {
		t.Errorf("%s: %v, %d, want %v, %d", what, got, e, want, wantErr)
	}
}

func wantWords(t *testing.T, what string, got []uint64, want ...uint64) {
	t.Helper()
	if !slices.Equal(got, want) {
		t.Errorf("%s: %x, want %x", what, got, want)
	}
}

// wantLevels looks at the whole bitmap: the words, and the summary that belongs to them.
func wantLevels(t *testing.T, what string, m *Bitmap, lower ...uint64) {
	t.Helper()
	wantWords(t, what+": Words", m.Words(), lower...)
	wantWords(t, what+": Summary", m.Summary(), summaryOf(lower)...)
}

func summaryOf(lower []uint64) []uint64 {
	upper := make([]uint64, (len(lower)+63)/64)
	for k, word := range lower {
		if word != 0 {
			upper[k/64] |= 1 << (k % 64)
		}
	}
	return upper
}

func wordsOf(n int, set ...int) []uint64 {
	words := make([]uint64, (n+63)/64)
	for _, i := range set {
		words[i/64] |= 1 << (i % 64)
	}
	return words
}

var wrongLens = []int{0, -1, math.MinInt, api.MaxBits + 1, math.MaxInt}

// P301, P303, P308.
func TestNew(t *testing.T) {
	for _, n := range wrongLens {
		if m, e := New(n); m != nil || e != api.ErrArg {
			t.Errorf("New(%d): %v, %d", n, m, e)
		}
	}
	for _, n := range []int{1, 2, 63, 64, 65, 127, 128, 129, 4095, 4096, 4097, api.MaxBits - 1, api.MaxBits} {
		m := made(t, n)
		if m.Len() != n || m.Count() != 0 || m.Next(0) != -1 || m.NextClear(0) != 0 {
			t.Errorf("New(%d): Len %d, Count %d, Next %d, NextClear %d", n, m.Len(), m.Count(), m.Next(0), m.NextClear(0))
		}
		wantLevels(t, "New", m, make([]uint64, (n+63)/64)...)
	}
}

// P302.
func TestFrom(t *testing.T) {
	for _, n := range wrongLens {
		for _, words := range [][]uint64{nil, {0}, make([]uint64, 1024), make([]uint64, 1025)} {
			if m, e := From(n, words); m != nil || e != api.ErrArg {
				t.Errorf("From(%d) of %d words: %v, %d", n, len(words), m, e)
			}
		}
	}
	for _, x := range wordCases {
		m, e := From(x.n, x.words)
		if e != x.want || (m == nil) != (e != api.OK) {
			t.Errorf("From(%d, %x): %v, %d, want %d", x.n, x.words, m, e, x.want)
		}
		if m != nil {
			wantLevels(t, "From", m, x.words...)
			if m.Len() != x.n {
				t.Errorf("From(%d): Len %d", x.n, m.Len())
			}
		}
	}
}

// wordCases: lists of words, and what is said to them; the wrong length is told ahead of a bit too many.
var wordCases = []struct {
	n     int
	words []uint64
	want  api.Errno
}{
	{1, nil, api.ErrSize},
	{1, []uint64{}, api.ErrSize},
	{1, []uint64{0}, api.OK},
	{1, []uint64{1}, api.OK},
	{1, []uint64{2}, api.ErrRange},
	{1, []uint64{1 << 63}, api.ErrRange},
	{1, []uint64{2, 0}, api.ErrSize},
	{3, []uint64{7}, api.OK},
	{3, []uint64{8}, api.ErrRange},
	{63, []uint64{1<<63 - 1}, api.OK},
	{63, []uint64{1 << 63}, api.ErrRange},
	{64, []uint64{1<<64 - 1}, api.OK},
	{64, []uint64{0, 0}, api.ErrSize},
	{64, nil, api.ErrSize},
	{65, []uint64{1}, api.ErrSize},
	{65, []uint64{1<<64 - 1, 1}, api.OK},
	{65, []uint64{0, 2}, api.ErrRange},
	{65, []uint64{0, 2, 0}, api.ErrSize},
	{128, []uint64{1 << 63, 1 << 63}, api.OK},
	{129, []uint64{1 << 63, 1 << 63, 1}, api.OK},
	{129, []uint64{1 << 63, 1 << 63, 3}, api.ErrRange},
	{api.MaxBits, make([]uint64, 1023), api.ErrSize},
	{api.MaxBits, make([]uint64, 1024), api.OK},
	{api.MaxBits, make([]uint64, 1025), api.ErrSize},
}

// P304, example 1.
func TestBits(t *testing.T) {
	m := made(t, 70)
	was, e := m.Set(0)
	wantBool(t, "Set(0)", was, e, true, api.OK)
	was, e = m.Set(0)
	wantBool(t, "Set(0) again", was, e, false, api.OK)
	was, e = m.Set(69)
	wantBool(t, "Set(69)", was, e, true, api.OK)
	wantLevels(t, "with 0 and 69", m, 1, 32)
	for _, i := range []int{70, 71, 127, 128, -1, -64, math.MaxInt, math.MinInt} {
		was, e = m.Set(i)
		wantBool(t, "Set outside", was, e, false, api.ErrRange)
		was, e = m.Clear(i)
		wantBool(t, "Clear outside", was, e, false, api.ErrRange)
		was, e = m.Test(i)
		wantBool(t, "Test outside", was, e, false, api.ErrRange)
	}
	wantLevels(t, "behind what was refused", m, 1, 32)
	was, e = m.Test(0)
	wantBool(t, "Test(0)", was, e, true, api.OK)
	was, e = m.Test(1)
	wantBool(t, "Test(1)", was, e, false, api.OK)
	wantLevels(t, "behind Test", m, 1, 32)
	was, e = m.Clear(0)
	wantBool(t, "Clear(0)", was, e, true, api.OK)
	was, e = m.Clear(0)
	wantBool(t, "Clear(0) again", was, e, false, api.OK)
	wantLevels(t, "with 69 alone", m, 0, 32)
}

// P304, P308: the edges of words of both levels.
func TestBitsAtEdges(t *testing.T) {
	for _, n := range []int{1, 64, 65, 4096, 4097, api.MaxBits} {
		for _, i := range []int{0, 1, 63, 64, 65, 4095, 4096, n - 2, n - 1} {
			m := made(t, n)
			was, e := m.Set(i)
			if i < 0 || i >= n {
				wantBool(t, "Set outside", was, e, false, api.ErrRange)
				continue
			}
			wantBool(t, "Set", was, e, true, api.OK)
			wantLevels(t, "one bit", m, wordsOf(n, i)...)
			if m.Next(0) != i || m.Next(i) != i || m.Next(i+1) != -1 || m.Count() != 1 {
				t.Errorf("bit %d of %d: Next %d, %d, %d, Count %d", i, n, m.Next(0), m.Next(i), m.Next(i+1), m.Count())
			}
			was, e = m.Clear(i)
			wantBool(t, "Clear", was, e, true, api.OK)
			wantLevels(t, "no bit", m, wordsOf(n)...)
		}
	}
}

// P308: a word's bit in the summary goes with the word's last bit, not ahead of it.
func TestSummaryFollowsTheWord(t *testing.T) {
	m := made(t, 200, 64, 65, 130)
	wantWords(t, "three bits", m.Summary(), 6)
	m.Clear(64)
	wantWords(t, "one of two cleared", m.Summary(), 6)
	m.ClearRange(0, 70)
	wantWords(t, "both cleared", m.Summary(), 4)
	m.SetRange(0, 200)
	wantWords(t, "all set", m.Summary(), 15)
}

// P305, example 2.
func TestRanges(t *testing.T) {
	const set, clr, count = 1, 2, 3
	m := made(t, 70)
	for _, x := range []struct {
		what, first, count, want int
		err                      api.Errno
	}{
		{set, 60, 10, 10, api.OK}, {set, 60, 11, 0, api.ErrRange}, {set, 62, 3, 0, api.OK},
		{set, 70, 0, 0, api.OK}, {set, 71, 0, 0, api.ErrRange}, {set, 5, -1, 0, api.ErrArg}, {set, -1, -1, 0, api.ErrArg},
		{count, 0, 70, 10, api.OK}, {clr, 64, 2, 2, api.OK}, {count, 0, 70, 8, api.OK},
		{clr, 70, 0, 0, api.OK}, {clr, 71, 0, 0, api.ErrRange}, {clr, 5, -1, 0, api.ErrArg}, {clr, 60, 11, 0, api.ErrRange},
		{count, 70, 0, 0, api.OK}, {count, 71, 0, 0, api.ErrRange}, {count, 5, -1, 0, api.ErrArg}, {count, 60, 11, 0, api.ErrRange},
		{set, -1, 0, 0, api.ErrRange}, {set, -1, 1, 0, api.ErrRange}, {set, 0, 71, 0, api.ErrRange},
		{set, 1, math.MaxInt, 0, api.ErrRange}, {set, math.MaxInt, 1, 0, api.ErrRange}, {set, math.MaxInt, math.MaxInt, 0, api.ErrRange},
		{set, math.MinInt, 1, 0, api.ErrRange}, {set, math.MinInt, math.MaxInt, 0, api.ErrRange}, {set, 0, math.MinInt, 0, api.ErrArg},
		{clr, math.MinInt, math.MaxInt, 0, api.ErrRange}, {count, math.MinInt, math.MaxInt, 0, api.ErrRange},
		{clr, math.MaxInt, math.MinInt, 0, api.ErrArg}, {count, math.MaxInt, math.MinInt, 0, api.ErrArg},
		{set, 30, 0, 0, api.OK}, {clr, 61, 0, 0, api.OK}, {count, 61, 0, 0, api.OK}, {count, 61, 1, 1, api.OK}, {count, 63, 4, 2, api.OK},
	} {
		got, e := 0, api.OK
		before := m.Words()
		switch x.what {
		case set:
			got, e = m.SetRange(x.first, x.count)
		case clr:
			got, e = m.ClearRange(x.first, x.count)
		default:
			got, e = m.CountRange(x.first, x.count)
		}
		if got != x.want || e != x.err {
			t.Errorf("%d of (%d, %d): %d, %d, want %d, %d", x.what, x.first, x.count, got, e, x.want, x.err)
		}
		if x.want == 0 || x.what == count {
			wantLevels(t, "behind a call that changes nothing", m, before...)
		}
	}
	wantLevels(t, "at the end", m, 15<<60, 15<<2)
	wantRuns(t, m, 60, 4, 66, 4)
	if m.Next(64) != 66 || m.NextClear(60) != 64 || m.NextClear(66) != -1 || m.Next(-5) != 60 || m.Next(70) != -1 {
		t.Errorf("Next and NextClear: %d, %d, %d, %d, %d", m.Next(64), m.NextClear(60), m.NextClear(66), m.Next(-5), m.Next(70))
	}
}

// P305: a range that lies over many words, and nothing beside it.
func TestWideRanges(t *testing.T) {
	m := made(t, 300)
	got, e := m.SetRange(1, 298)
	wantInt(t, "SetRange(1, 298)", got, e, 298, api.OK)
	wantLevels(t, "all but the ends", m, 1<<64-2, 1<<64-1, 1<<64-1, 1<<64-1, 1<<43-1)
	got, e = m.ClearRange(63, 130)
	wantInt(t, "ClearRange(63, 130)", got, e, 130, api.OK)
	wantLevels(t, "with a hole", m, 1<<63-2, 0, 0, 1<<64-2, 1<<43-1)
	got, e = m.SetRange(0, 300)
	wantInt(t, "SetRange(0, 300)", got, e, 132, api.OK)
	got, e = m.CountRange(0, 300)
	wantInt(t, "CountRange(0, 300)", got, e, 300, api.OK)
	got, e = m.ClearRange(0, 300)
	wantInt(t, "ClearRange(0, 300)", got, e, 300, api.OK)
	got, e = m.ClearRange(0, 300)
	wantInt(t, "ClearRange(0, 300) again", got, e, 0, api.OK)
}

// P306.
func TestCount(t *testing.T) {
	m := made(t, 70, 0, 63, 64, 69)
	if m.Count() != 4 {
		t.Errorf("Count %d", m.Count())
	}
	m.Clear(63)
	m.Clear(63)
	if m.Count() != 3 {
		t.Errorf("Count %d behind Clear", m.Count())
	}
	full := made(t, api.MaxBits)
	full.SetRange(0, api.MaxBits)
	if full.Count() != api.MaxBits {
		t.Errorf("Count %d of a full one", full.Count())
	}
}

// P307.
func TestNext(t *testing.T) {
	m := made(t, 10000, 0, 100, 101, 9999)
	for _, x := range [][2]int{{math.MinInt, 0}, {-1, 0}, {0, 0}, {1, 100}, {63, 100}, {100, 100}, {101, 101}, {102, 9999}, {9999, 9999}, {10000, -1}, {10001, -1}, {math.MaxInt, -1}} {
		if got := m.Next(x[0]); got != x[1] {
			t.Errorf("Next(%d): %d, want %d", x[0], got, x[1])
		}
	}
	m.SetRange(0, 10000)
	m.Clear(0)
	m.Clear(100)
	m.Clear(101)
	for _, x := range [][2]int{{math.MinInt, 0}, {-1, 0}, {0, 0}, {1, 100}, {63, 100}, {100, 100}, {101, 101}, {102, -1}, {9999, -1}, {10000, -1}, {10001, -1}, {math.MaxInt, -1}} {
		if got := m.NextClear(x[0]); got != x[1] {
			t.Errorf("NextClear(%d): %d, want %d", x[0], got, x[1])
		}
	}
	m.Clear(9999)
	if got := m.NextClear(102); got != 9999 {
		t.Errorf("NextClear(102) with the last bit clear: %d", got)
	}
}

// P307: in the last word what lies behind the end is not there.
func TestNextClearAtTheEnd(t *testing.T) {
	for _, n := range []int{1, 63, 64, 65, 128, 130, api.MaxBits} {
		m := made(t, n)
		m.SetRange(0, n)
		if got := m.NextClear(0); got != -1 {
			t.Errorf("NextClear of %d set bits: %d", n, got)
		}
		m.Clear(n - 1)
		if got := m.NextClear(0); got != n-1 {
			t.Errorf("NextClear of %d bits, all but the last set: %d", n, got)
		}
	}
}

// P311.
func TestMerge(t *testing.T) {
	for _, x := range wordCases {
		m := made(t, x.n)
		want, lower := 0, wordsOf(x.n)
		if x.want == api.OK {
			other, _ := From(x.n, x.words)
			want, lower = other.Count(), x.words
		}
		got, e := m.Merge(x.words)
		wantInt(t, "Merge", got, e, want, x.want)
		wantLevels(t, "Merge", m, lower...)
	}
	m := made(t, 130, 1, 2, 129)
	got, e := m.Merge([]uint64{6 | 1<<63, 0, 1})
	wantInt(t, "Merge", got, e, 2, api.OK)
	wantLevels(t, "Merge", m, 6|1<<63, 0, 3)
	got, e = m.Merge([]uint64{6, 0, 4})
	wantInt(t, "Merge of a bit too many", got, e, 0, api.ErrRange)
	got, e = m.Merge([]uint64{0, 1})
	wantInt(t, "Merge of a word too few", got, e, 0, api.ErrSize)
	wantLevels(t, "behind what was refused", m, 6|1<<63, 0, 3)
	got, e = m.Merge([]uint64{0, 0, 0})
	wantInt(t, "Merge of nothing", got, e, 0, api.OK)
	wantLevels(t, "Merge of nothing", m, 6|1<<63, 0, 3)
}

// P312.
func TestUnion(t *testing.T) {
	for _, n := range wrongLens {
		for _, lists := range [][][]uint64{nil, {nil}, {{0}}} {
			if got, e := Union(n, lists...); got != nil || e != api.ErrArg {
				t.Errorf("Union(%d): %x, %d", n, got, e)
			}
		}
	}
	for _, x := range wordCases {
		for _, lists := range [][][]uint64{{x.words}, {wordsOf(x.n), x.words}, {x.words, wordsOf(x.n)}} {
			got, e := Union(x.n, lists...)
			if e != x.want || e != api.OK && got != nil || e == api.OK && !slices.Equal(got, x.words) {
				t.Errorf("Union(%d, %x): %x, %d, want %d", x.n, lists, got, e, x.want)
			}
		}
	}
	for _, x := range []struct {
		n     int
		lists [][]uint64
		want  []uint64
		err   api.Errno
	}{
		{3, nil, []uint64{0}, api.OK},
		{64, nil, []uint64{0}, api.OK},
		{65, nil, []uint64{0, 0}, api.OK},
		{api.MaxBits, nil, make([]uint64, 1024), api.OK},
		{3, [][]uint64{{1}, {4}}, []uint64{5}, api.OK},
		{3, [][]uint64{{1}, {1}, {3}}, []uint64{3}, api.OK},
		{70, [][]uint64{{1 << 63, 1}, {1, 32}, {0, 0}}, []uint64{1<<63 | 1, 33}, api.OK},
		{3, [][]uint64{{1}, nil, {8}}, nil, api.ErrSize},
		{3, [][]uint64{{1}, {8}, nil}, nil, api.ErrRange},
	} {
		got, e := Union(x.n, x.lists...)
		if !slices.Equal(got, x.want) || (got == nil) != (x.want == nil) || e != x.err {
			t.Errorf("Union(%d, %x): %x, %d, want %x, %d", x.n, x.lists, got, e, x.want, x.err)
		}
	}
}

// scribble writes over a list and into its spare room.
func scribble[T uint64 | byte](list []T) {
	list = list[:cap(list)]
	for i := range list {
		list[i] = ^list[i]
	}
}

// The section Words: lists that are handed out or in share nothing with what is kept.
func TestListsAreNewMemory(t *testing.T) {
	words := []uint64{5, 1, 77}[:2]
	m, e := From(70, words)
	if e != api.OK {
		t.Fatalf("From: %d", e)
	}
	out, sum := m.Words(), m.Summary()
	union, _ := Union(70, words)
	code, _ := Encode(70, words)
	m.Merge(words)
	if whole := words[:3]; !slices.Equal(whole, []uint64{5, 1, 77}) {
		t.Fatalf("what was handed in became %x", whole)
	}
	scribble(words)
	wantLevels(t, "once what was handed in was written over", m, 5, 1)
	wantWords(t, "Union", union, 5, 1)
	scribble(out)
	scribble(sum)
	wantLevels(t, "once what was handed out was written over", m, 5, 1)
	wantWords(t, "Union", union, 5, 1)
	given := append(slices.Clone(code), 9)[:len(code)]
	first, _, e := Decode(70, given)
	second, _, f := Decode(70, given)
	if e != api.OK || f != api.OK || !slices.Equal(given[:cap(given)][:len(code)+1], append(slices.Clone(code), 9)) {
		t.Fatalf("Decode: %d, %d, %x", e, f, given)
	}
	scribble(first)
	scribble(given)
	wantWords(t, "the second list of Decode", second, 5, 1)
}

// P315: bitmaps share nothing with one another.
func TestBitmapsShareNothing(t *testing.T) {
	words := []uint64{3, 0}
	one, _ := From(70, words)
	two, _ := From(70, words)
	three, _ := From(70, one.Words())
	one.SetRange(0, 70)
	two.ClearRange(0, 70)
	wantLevels(t, "the first", one, 1<<64-1, 63)
	wantLevels(t, "the second", two, 0, 0)
	wantLevels(t, "the third", three, 3, 0)
	wantWords(t, "the list", words, 3, 0)
}
