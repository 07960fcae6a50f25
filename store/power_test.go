package store

import (
	"bytes"
	"slices"
	"testing"

	"replica/api"
	"replica/disk"
	"replica/meta"
)

// witness: what P1119 says must be found behind a loss of power, noted from the calls' answers alone.
type witness struct {
	t      *testing.T
	d      *disk.Disk
	s      *Store
	l      api.Layout
	refs   []int
	marked []bool
	may    [][][]byte // of each data block: what was durable last, and the writes behind it
	fills  int
	failed bool // a call has answered ErrPower
}

func newWitness(t *testing.T, blocks, size, slots int) *witness {
	t.Helper()
	d, l := formatted(t, blocks, size, slots, api.FlagPrimary, false)
	w := &witness{t: t, d: d, l: l}
	w.begin()
	return w
}

// begin opens the store and notes what is there.
func (w *witness) begin() {
	w.t.Helper()
	s, _, e := Open(w.d)
	if e != api.OK {
		w.t.Fatalf("P1119: Open: %v", e)
	}
	w.s, w.failed = s, false
	w.refs = make([]int, (w.l.Blocks+3)/4)
	w.marked = make([]bool, w.l.Blocks)
	w.may = make([][][]byte, w.l.Blocks)
	bits := s.Bits()
	for b := range w.l.Blocks {
		w.marked[b] = has(bits, b)
		data, _ := s.Read(b)
		w.may[b] = [][]byte{data}
	}
}

func (w *witness) answer(e api.Errno) bool {
	w.failed = w.failed || e == api.ErrPower
	return e == api.OK
}

func (w *witness) data() []byte {
	w.fills++
	return bytes.Repeat([]byte{byte(w.fills), byte(w.fills >> 8)}, w.l.Size/2)
}

// call makes one call of the store and notes what its answer promises.
func (w *witness) call(d *dice) {
	b := d.below(w.l.Blocks)
	if d.below(2) == 0 {
		b = d.below(min(w.l.Blocks, 12))
	}
	switch n := d.below(100); {
	case n < 25:
		if w.answer(w.s.Begin(b)) {
			w.refs[b/4]++
		}
	case n < 40:
		if w.answer(w.s.End(b)) {
			w.refs[b/4]--
		}
	case n < 60:
		w.write(n, b)
	case n < 64:
		if w.answer(w.s.Flush()) {
			for b, may := range w.may {
				w.may[b] = may[len(may)-1:]
			}
		}
	case n < 90:
		w.mark(d, n, b)
	case n < 95:
		w.answer(w.s.Checkpoint())
	default:
		w.answer(w.s.SetGens(api.Gens{Current: uint64(n)}, uint32(d.below(16))|api.FlagPrimary))
	}
}

func (w *witness) write(n, b int) {
	data := w.data()
	switch {
	case n < 55:
		if w.answer(w.s.Write(b, data)) {
			w.may[b] = append(slices.Clip(w.may[b]), data)
		}
	case n < 57:
		if w.answer(w.s.Apply(b, data)) {
			w.may[b] = append(slices.Clip(w.may[b]), data)
		}
	default:
		if w.answer(w.s.Through(b, data)) {
			w.may[b] = [][]byte{data}
		}
	}
}

func (w *witness) mark(d *dice, n, b int) {
	switch {
	case n < 74:
		if _, e := w.s.Mark(b); w.answer(e) {
			w.marked[b] = true
		}
	case n < 78:
		bits := make([]bool, w.l.Blocks)
		for range d.below(5) {
			bits[d.below(w.l.Blocks)] = true
		}
		if _, e := w.s.MarkWords(wordsOf(bits)); w.answer(e) {
			for b, set := range bits {
				w.marked[b] = w.marked[b] || set
			}
		}
	default:
		if _, e := w.s.Clean(b); w.answer(e) {
			w.marked[b] = false
		}
	}
}

// holds opens the disk behind its crash and looks for all that P1119 promises; covered is what was told, if the power went between two calls.
func (w *witness) holds(covered []int, between bool) {
	w.t.Helper()
	refs, marked, may := w.refs, w.marked, w.may
	w.begin()
	var extents []int
	for b, found := range w.marked {
		if !found && (refs[b/4] > 0 || marked[b]) {
			w.t.Fatalf("P1119: block %d is not marked: %d references, marked %v", b, refs[b/4], marked[b])
		}
		if found && !slices.Contains(extents, b/4) {
			extents = append(extents, b/4)
		}
		if !slices.ContainsFunc(may[b], func(data []byte) bool { return bytes.Equal(data, w.may[b][0]) }) {
			w.t.Fatalf("P1119: block %d holds %.4q, of %d it may", b, w.may[b][0], len(may[b]))
		}
	}
	if between && !slices.Equal(extents, covered) {
		w.t.Fatalf("P1119: the extents with marks are %v, Covered told %v", extents, covered)
	}
	if first := slices.Index(w.marked, true); first >= 0 && w.s.Super().Mark > first {
		w.t.Fatalf("P1103: Mark %d, and %d is marked", w.s.Super().Mark, first)
	}
}

func picks(d *dice) []byte {
	picks := make([]byte, d.below(7))
	for i := range picks {
		picks[i] = byte(d.below(256))
	}
	return picks
}

// P1119: one row of calls, again and again, with the power going at each of its writing steps.
func TestPowerAtEachStep(t *testing.T) {
	for i, g := range [][3]int{{1, 128, 1}, {9, 128, 2}, {40, 128, 5}, {41, 256, 9}, {200, 128, 16}, {1030, 128, 3}} {
		for seed := range 6 {
			for cut := 0; ; cut++ {
				row, luck := dice(100*i+seed), dice(cut)
				w := newWitness(t, g[0], g[1], g[2])
				w.d.Fuse(cut)
				for range 70 {
					if w.call(&row); w.failed {
						break
					}
				}
				failed := w.failed
				if failed {
					wantDown(t, w.s, w.l)
				}
				w.d.Crash(picks(&luck))
				w.holds(nil, false)
				if !failed {
					break
				}
			}
		}
	}
}

// P1119: the power goes between two calls, behind each call of long rows that go on behind it.
func TestPowerBetweenCalls(t *testing.T) {
	for i, g := range [][3]int{{1, 128, 1}, {4, 128, 1}, {9, 128, 2}, {40, 128, 5}, {41, 256, 9}, {200, 128, 16}, {1030, 128, 3}} {
		row := dice(i + 1)
		w := newWitness(t, g[0], g[1], g[2])
		for range 600 {
			for range row.below(12) {
				w.call(&row)
			}
			covered := w.s.Covered()
			w.d.Crash(picks(&row))
			w.holds(covered, true)
		}
	}
}

// P1119: rows that go on behind losses of power at any step, those of a recovery among them.
func TestPowerAgain(t *testing.T) {
	for i, g := range [][3]int{{9, 128, 2}, {40, 128, 5}, {200, 128, 16}, {1030, 128, 3}} {
		row := dice(i + 50)
		w := newWitness(t, g[0], g[1], g[2])
		for range 600 {
			w.d.Fuse(row.below(20))
			for range 40 {
				if w.call(&row); w.failed {
					break
				}
			}
			w.d.Crash(picks(&row))
			for range row.below(3) {
				w.d.Fuse(row.below(2))
				if _, _, e := Open(w.d); e != api.OK && e != api.ErrPower {
					t.Fatalf("P1119: Open: %v", e)
				}
				w.d.Crash(picks(&row))
			}
			w.holds(nil, false)
		}
	}
}

// P1119: a record that was written is found, though its call went no further; the layout's last extent is short.
func TestPowerLastExtent(t *testing.T) {
	w := newWitness(t, 5, 128, 1)
	must(t, "P1107", w.s.Begin(4))
	w.refs[1]++
	w.d.Fuse(0)
	want(t, "P1109", w.s.Write(4, w.data()), api.ErrPower)
	w.d.Crash([]byte{1})
	w.holds(nil, false)
	wantMarks(t, "P1119", w.s, []uint64{16}, []uint64{16}, 1)
	if l, _ := meta.Plan(5, 128, 1); w.s.Layout() != l {
		t.Errorf("Layout %+v", w.s.Layout())
	}
}
