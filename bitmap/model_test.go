package bitmap

import (
	"slices"
	"testing"

	"replica/api"
)

// dice: numbers that are the same at each run.
type dice uint64

func (d *dice) roll(n int) int {
	*d = *d*6364136223846793005 + 1442695040888963407
	return int(uint64(*d) >> 33 % uint64(n))
}

// model: a bitmap as a row of bools.
type model []bool

func (m model) words() []uint64 {
	var set []int
	for i, is := range m {
		if is {
			set = append(set, i)
		}
	}
	return wordsOf(len(m), set...)
}

func (m model) next(from int, is bool) int {
	for i := max(from, 0); i < len(m); i++ {
		if m[i] == is {
			return i
		}
	}
	return -1
}

func (m model) lay(first, count int, is bool) int {
	changed := 0
	for i := first; i < first+count; i++ {
		if m[i] != is {
			changed++
			m[i] = is
		}
	}
	return changed
}

func (m model) count(first, count int) int { return slices.Clone(m).lay(first, count, false) }

func (m model) checkRange(first, count int) api.Errno {
	switch {
	case count < 0:
		return api.ErrArg
	case first < 0 || first > len(m) || count > len(m)-first:
		return api.ErrRange
	}
	return api.OK
}

// near gives a number in and about the bits of the model.
func (m model) near(d *dice) int { return d.roll(len(m)+6) - 3 }

// oneBit makes one call of one bit at both.
func (m model) oneBit(t *testing.T, d *dice, b *Bitmap) {
	i, kind := m.near(d), d.roll(3)
	want, wantErr := false, api.ErrRange
	if i >= 0 && i < len(m) {
		wantErr = api.OK
		want = m[i] == (kind != 0)
	}
	var got bool
	var e api.Errno
	switch kind {
	case 0:
		got, e = b.Set(i)
	case 1:
		got, e = b.Clear(i)
	default:
		got, e = b.Test(i)
	}
	wantBool(t, "one bit", got, e, want, wantErr)
	if e == api.OK && kind < 2 {
		m[i] = kind == 0
	}
}

// oneRange makes one call of a range at both.
func (m model) oneRange(t *testing.T, d *dice, b *Bitmap) {
	first, count := m.near(d), m.near(d)
	if d.roll(2) == 0 {
		count = d.roll(9)
	}
	wantErr := m.checkRange(first, count)
	var want, got int
	var e api.Errno
	switch kind := d.roll(3); kind {
	case 0, 1:
		if wantErr == api.OK {
			want = m.lay(first, count, kind == 0)
		}
		if kind == 0 {
			got, e = b.SetRange(first, count)
		} else {
			got, e = b.ClearRange(first, count)
		}
	default:
		if wantErr == api.OK {
			want = m.count(first, count)
		}
		got, e = b.CountRange(first, count)
	}
	wantInt(t, "a range", got, e, want, wantErr)
}

func (m model) oneMerge(t *testing.T, d *dice, b *Bitmap) {
	other := make(model, len(m))
	for range d.roll(5) {
		other[d.roll(len(m))] = true
	}
	want := 0
	for i, is := range other {
		if is {
			want += m.lay(i, 1, true)
		}
	}
	got, e := b.Merge(other.words())
	wantInt(t, "Merge", got, e, want, api.OK)
}

func (m model) compare(t *testing.T, d *dice, b *Bitmap) {
	wantLevels(t, "the model", b, m.words()...)
	if got, want := b.Count(), m.count(0, len(m)); got != want {
		t.Errorf("Count %d, want %d", got, want)
	}
	from := m.near(d)
	if b.Next(from) != m.next(from, true) || b.NextClear(from) != m.next(from, false) {
		t.Errorf("from %d of %x: Next %d, NextClear %d", from, m.words(), b.Next(from), b.NextClear(from))
	}
}

// goOver goes over both while the body changes both, by rule P309 or P310.
func (m model) goOver(t *testing.T, d *dice, b *Bitmap) {
	body := func() bool {
		m.oneBit(t, d, b)
		m.oneRange(t, d, b)
		return d.roll(40) > 0
	}
	place := 0
	if d.roll(2) == 0 {
		more := true
		for i := range b.All() {
			if want := m.next(place, true); i != want {
				t.Fatalf("All yields %d, want %d", i, want)
			}
			place = i + 1
			if more = body(); !more {
				break
			}
		}
		if more && m.next(place, true) != -1 {
			t.Errorf("All ends ahead of %d", m.next(place, true))
		}
		return
	}
	for first, count := range b.Runs() {
		f := m.next(place, true)
		end := m.next(f, false)
		if end < 0 {
			end = len(m)
		}
		if first != f || count != end-f {
			t.Fatalf("Runs yields %d, %d, want %d, %d", first, count, f, end-f)
		}
		place = end
		if !body() {
			return
		}
	}
	if m.next(place, true) != -1 {
		t.Errorf("Runs ends ahead of %d", m.next(place, true))
	}
}

// P304 to P311: long rows of calls, held against the model.
func TestAgainstModel(t *testing.T) {
	d := dice(3)
	for _, n := range []int{1, 2, 5, 63, 64, 65, 127, 128, 129, 200, 4095, 4097, 9000} {
		b, m := made(t, n), make(model, n)
		for range 300 {
			switch d.roll(12) {
			case 0, 1, 2, 3, 4:
				m.oneBit(t, &d, b)
			case 5, 6, 7, 8:
				m.oneRange(t, &d, b)
			case 9, 10:
				m.oneMerge(t, &d, b)
			default:
				m.goOver(t, &d, b)
			}
			m.compare(t, &d, b)
			if t.Failed() {
				t.Fatalf("of %d bits", n)
			}
		}
	}
}
