package walk

import (
	"iter"
	"math"
	"slices"
	"testing"

	"replica/api"
)

func wordsOf(n int, set ...int) []uint64 {
	words := make([]uint64, (n+63)/64)
	for _, i := range set {
		words[i/64] |= 1 << (i % 64)
	}
	return words
}

func isSet(words []uint64, i int) bool { return words[i/64]>>(i%64)&1 == 1 }

// plainWalk: the walk's bits by P1304's words, one number after the other.
func plainWalk(n int, words []uint64, start int) []int {
	var row []int
	for i := start; i < n; i++ {
		if isSet(words, i) {
			row = append(row, i)
		}
	}
	for i := 0; i < start; i++ {
		if isSet(words, i) {
			row = append(row, i)
		}
	}
	return row
}

func newWalk(t *testing.T, n int, words []uint64, start int) *Walker {
	t.Helper()
	w, e := New(n, words, start)
	if w == nil || e != api.OK {
		t.Fatalf("P1304: New(%d, %x, %d): %v, %v", n, words, start, w, e)
	}
	return w
}

// wantNexts takes all of a walk by Next, and asks it behind its end too.
func wantNexts(t *testing.T, w *Walker, want []int) {
	t.Helper()
	for k, i := range want {
		if w.Left() != len(want)-k || w.Left() != len(want)-k {
			t.Fatalf("P1305: Left %d, want %d", w.Left(), len(want)-k)
		}
		if got, e := w.Next(); got != i || e != api.OK {
			t.Fatalf("P1304, P1305: Next %d: %d, %v, want %d of %v", k, got, e, i, want)
		}
	}
	for range 3 {
		if left := w.Left(); left != 0 {
			t.Fatalf("P1305: Left %d at the end", left)
		}
		if got, e := w.Next(); got != 0 || e != api.ErrDone {
			t.Fatalf("P1305: Next at the end: %d, %v", got, e)
		}
	}
}

// take goes over an iterator until it has that many; -1: to its end.
func take(seq iter.Seq[int], most int) []int {
	var row []int
	if most == 0 {
		return row
	}
	for i := range seq {
		row = append(row, i)
		if len(row) == most {
			break
		}
	}
	return row
}

// randomWords: about one bit of every gap is set.
func randomWords(d *dice, n int, gap int) []uint64 {
	words := make([]uint64, (n+63)/64)
	for i := range n {
		if d.below(gap) == 0 {
			words[i/64] |= 1 << (i % 64)
		}
	}
	return words
}

// Example 2.
func TestWalkExample(t *testing.T) {
	words := []uint64{0x05, 0x21}
	wantNexts(t, newWalk(t, 70, words, 64), []int{64, 69, 0, 2})
	wantNexts(t, newWalk(t, 70, words, 65), []int{69, 0, 2, 64})
	wantNexts(t, newWalk(t, 70, words, 70), []int{0, 2, 64, 69})
	wantNexts(t, newWalk(t, 70, words, 0), []int{0, 2, 64, 69})
	for _, x := range []struct {
		n     int
		words []uint64
		start int
		want  api.Errno
	}{
		{70, words, 71, api.ErrRange}, {70, []uint64{5}, 0, api.ErrSize}, {70, []uint64{0, 0x40}, 0, api.ErrRange},
		{0, nil, 0, api.ErrArg}, {0, nil, 9, api.ErrArg}, {70, nil, 71, api.ErrRange}, {70, nil, 70, api.ErrSize},
	} {
		if w, e := New(x.n, x.words, x.start); w != nil || e != x.want {
			t.Errorf("P1304: New(%d, %x, %d): %v, %v, want %v", x.n, x.words, x.start, w, e, x.want)
		}
	}
}

// refusal: what P1304 says to arguments of New, in its order.
func refusal(n int, words []uint64, start int) api.Errno {
	if n < 1 || n > 65536 {
		return api.ErrArg
	}
	if start < 0 || start > n {
		return api.ErrRange
	}
	if len(words) != (n+63)/64 {
		return api.ErrSize
	}
	for i := n; i < 64*len(words); i++ {
		if isSet(words, i) {
			return api.ErrRange
		}
	}
	return api.OK
}

// wrongLists: lists about the length that belongs to n, empty, with all bits that may be set, and with one too many.
func wrongLists(n int) [][]uint64 {
	right := 1
	if n >= 1 && n <= 1<<17 {
		right = (n + 63) / 64
	}
	lists := [][]uint64{nil, {}, {0}, {1}, make([]uint64, 1024), make([]uint64, 1025)}
	for _, length := range []int{right - 1, right, right + 1} {
		zero, full := make([]uint64, length), make([]uint64, length)
		for k := range full {
			full[k] = math.MaxUint64
		}
		lists = append(lists, zero, full)
		for _, i := range []int{n, n + 1, 64*length - 1} {
			if i >= 0 && i < 64*length {
				lists = append(lists, wordsOf(64*length, i))
			}
		}
		if n >= 1 && n <= 64*length {
			fits := make([]uint64, length)
			for i := range n {
				fits[i/64] |= 1 << (i % 64)
			}
			lists = append(lists, fits)
		}
	}
	return lists
}

var sizes = []int{math.MinInt, math.MinInt + 1, -64, -1, 0, 1, 2, 3, 4, 5, 63, 64, 65, 70, 127, 128, 129, 4096, 65473, 65535, 65536, 65537, 1 << 32, math.MaxInt - 62, math.MaxInt}

// P1304: each error, and which is told where several apply.
func TestNewRefuses(t *testing.T) {
	met := map[api.Errno]int{}
	for _, n := range sizes {
		for _, words := range wrongLists(n) {
			for _, start := range []int{math.MinInt, -1, 0, 1, n/2 + 1, n - 1, n, n + 1, math.MaxInt} {
				want := refusal(n, words, start)
				met[want]++
				w, e := New(n, words, start)
				if e != want || (w == nil) != (e != api.OK) {
					t.Fatalf("P1304: New(%d, %d words, %d): %v, %v, want %v", n, len(words), start, w != nil, e, want)
				}
				if w != nil {
					wantNexts(t, w, plainWalk(n, words, start))
				}
			}
		}
	}
	if len(met) != 4 {
		t.Errorf("answers met: %v", met)
	}
}

// P1304, P1305, P1306: every list of few bits, every start.
func TestSmallWalks(t *testing.T) {
	for n := 1; n <= 7; n++ {
		for word := range uint64(1) << n {
			words := []uint64{word}
			for start := 0; start <= n; start++ {
				want := plainWalk(n, words, start)
				wantNexts(t, newWalk(t, n, words, start), want)
				for leave := 0; leave <= len(want); leave++ {
					w := newWalk(t, n, words, start)
					if got := take(w.Rest(), leave); !slices.Equal(got, want[:leave]) {
						t.Fatalf("P1306: %d bits, %x, start %d: %v, want %v", n, word, start, got, want[:leave])
					}
					wantNexts(t, w, want[leave:])
				}
				w := newWalk(t, n, words, start)
				if got := take(w.Rest(), -1); !slices.Equal(got, want) {
					t.Fatalf("P1306: %d bits, %x, start %d: %v, want %v", n, word, start, got, want)
				}
				wantNexts(t, w, nil)
			}
		}
	}
}

// P1304, P1305: many bits, at the edges of the words and of the device.
func TestGreatWalks(t *testing.T) {
	d := dice(1304)
	for _, n := range []int{63, 64, 65, 127, 128, 129, 1000, 4095, 4096, 4097, 65535, 65536} {
		for _, gap := range []int{1, 2, 30, 5000} {
			words := randomWords(&d, n, gap)
			for _, start := range []int{0, 1, 63, n / 2, n - 1, n, d.below(n + 1)} {
				want := plainWalk(n, words, start)
				wantNexts(t, newWalk(t, n, words, start), want)
				if got := slices.Collect(newWalk(t, n, words, start).Rest()); !slices.Equal(got, want) {
					t.Fatalf("P1306: %d bits, one of %d, start %d: %d bits, want %d", n, gap, start, len(got), len(want))
				}
			}
		}
	}
}

// P1301, P1304: a walk goes by the words as they were, and leaves them and their spare room alone.
func TestWalkKeepsNothing(t *testing.T) {
	whole := []uint64{0x05, 0x21, 0xfeed, 0xbeef}
	words := whole[:2]
	w := newWalk(t, 70, words, 64)
	other := newWalk(t, 70, words, 0)
	seq := w.Rest()
	take(seq, 1)
	if !slices.Equal(whole, []uint64{0x05, 0x21, 0xfeed, 0xbeef}) {
		t.Fatalf("P1301: what was handed in became %x", whole)
	}
	for k := range whole {
		whole[k] = ^whole[k]
	}
	if got := take(seq, 1); !slices.Equal(got, []int{69}) {
		t.Errorf("P1304: %v, once the words were written over", got)
	}
	wantNexts(t, w, []int{0, 2})
	wantNexts(t, other, []int{0, 2, 64, 69})
}

// P1301: two walks over the same words know nothing of each other.
func TestWalksApart(t *testing.T) {
	words := []uint64{0xf0f0}
	one, two := newWalk(t, 16, words, 6), newWalk(t, 16, words, 6)
	take(one.Rest(), 5)
	if one.Left() != 3 || two.Left() != 8 {
		t.Fatalf("P1301: Left %d and %d", one.Left(), two.Left())
	}
	wantNexts(t, two, []int{6, 7, 12, 13, 14, 15, 4, 5})
	wantNexts(t, one, []int{15, 4, 5})
}

// Example 3.
func TestRestExample(t *testing.T) {
	w := newWalk(t, 70, []uint64{0x05, 0x21}, 64)
	seq := w.Rest()
	var seen []int
	for i := range seq {
		seen = append(seen, i)
		if i == 69 {
			break
		}
	}
	if !slices.Equal(seen, []int{64, 69}) || w.Left() != 2 {
		t.Fatalf("P1306: %v, Left %d", seen, w.Left())
	}
	if i, e := w.Next(); i != 0 || e != api.OK {
		t.Fatalf("P1306: Next %d, %v", i, e)
	}
	if got := take(seq, -1); !slices.Equal(got, []int{2}) || w.Left() != 0 {
		t.Fatalf("P1306: %v, Left %d", got, w.Left())
	}
	if got := take(seq, -1); got != nil {
		t.Fatalf("P1306: %v behind the end", got)
	}
}

// P1306: a bit is out of the walk by the time that the body sees it, and Rest alone takes none.
func TestRestTakesAhead(t *testing.T) {
	w := newWalk(t, 8, []uint64{0xff}, 0)
	for range 5 {
		w.Rest()
	}
	if w.Left() != 8 {
		t.Fatalf("P1306: Left %d behind Rest", w.Left())
	}
	seen := 0
	for i := range w.Rest() {
		seen++
		if i != seen-1 || w.Left() != 8-seen {
			t.Fatalf("P1306: at %d Left is %d", i, w.Left())
		}
	}
	wantNexts(t, w, nil)
}

// P1306: what the body takes, by Next or by a loop of its own, is not given again.
func TestRestWithTakingBody(t *testing.T) {
	w := newWalk(t, 12, []uint64{0xfff}, 3)
	seq := w.Rest()
	var outer, inner []int
	for i := range seq {
		outer = append(outer, i)
		if n, e := w.Next(); e == api.OK {
			inner = append(inner, n)
		}
		inner = append(inner, take(seq, 1)...)
		inner = append(inner, take(w.Rest(), 1)...)
	}
	if !slices.Equal(outer, []int{3, 7, 11}) || !slices.Equal(inner, []int{4, 5, 6, 8, 9, 10, 0, 1, 2}) {
		t.Errorf("P1306: %v outside, %v inside", outer, inner)
	}
	w = newWalk(t, 5, []uint64{0x1f}, 0)
	outer = nil
	for i := range w.Rest() {
		outer = append(outer, i)
		take(w.Rest(), -1)
	}
	if !slices.Equal(outer, []int{0}) {
		t.Errorf("P1306: %v, though the body took all", outer)
	}
	wantNexts(t, w, nil)
}

// P1305, P1306: Next, Left and loops over iterators old and new, that leave anywhere, beside a plain row.
func TestWalkRows(t *testing.T) {
	d := dice(1306)
	for range 300 {
		n := 1 + d.below(300)
		words := randomWords(&d, n, 1+d.below(6))
		start := d.below(n + 1)
		w, row := newWalk(t, n, words, start), plainWalk(n, words, start)
		seqs := []iter.Seq[int]{w.Rest()}
		for range 80 {
			switch d.below(4) {
			case 0:
				seqs = append(seqs, w.Rest())
			case 1:
				row = wantOneNext(t, w, row)
			default:
				row = wantLoop(t, &d, w, seqs[d.below(len(seqs))], row)
			}
			if w.Left() != len(row) {
				t.Fatalf("P1305: Left %d, want %d", w.Left(), len(row))
			}
		}
		wantNexts(t, w, row)
	}
}

func wantOneNext(t *testing.T, w *Walker, row []int) []int {
	t.Helper()
	got, e := w.Next()
	if len(row) == 0 {
		if got != 0 || e != api.ErrDone {
			t.Fatalf("P1305: Next at the end: %d, %v", got, e)
		}
		return row
	}
	if got != row[0] || e != api.OK {
		t.Fatalf("P1305: Next %d, %v, want %d", got, e, row[0])
	}
	return row[1:]
}

// wantLoop goes over an iterator for a while, and takes some by Next in its body.
func wantLoop(t *testing.T, d *dice, w *Walker, seq iter.Seq[int], row []int) []int {
	t.Helper()
	left := false
	for i := range seq {
		if len(row) == 0 || i != row[0] {
			t.Fatalf("P1306: the loop sees %d, to come are %v", i, row)
		}
		row = row[1:]
		if d.below(3) == 0 {
			row = wantOneNext(t, w, row)
		}
		if d.below(3) == 0 {
			left = true
			break
		}
	}
	if !left && len(row) != 0 {
		t.Fatalf("P1306: the loop has ended, to come are %v", row)
	}
	return row
}
