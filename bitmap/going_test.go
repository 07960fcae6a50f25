package bitmap

import (
	"slices"
	"testing"

	"replica/api"
)

// seen goes over All, and lets body change what it likes; body says whether to go on.
func seen(m *Bitmap, body func(i int) bool) []int {
	var list []int
	for i := range m.All() {
		list = append(list, i)
		if !body(i) {
			break
		}
	}
	return list
}

func goOn(int) bool { return true }

func wantSeen(t *testing.T, what string, got []int, want ...int) {
	t.Helper()
	if !slices.Equal(got, want) {
		t.Errorf("%s: %v, want %v", what, got, want)
	}
}

// runsSeen goes over Runs and gives the pairs one behind the other.
func runsSeen(m *Bitmap, body func(first int) bool) []int {
	var list []int
	for first, count := range m.Runs() {
		list = append(list, first, count)
		if !body(first) {
			break
		}
	}
	return list
}

func wantRuns(t *testing.T, m *Bitmap, want ...int) {
	t.Helper()
	wantSeen(t, "Runs", runsSeen(m, goOn), want...)
}

// P309, example 3.
func TestAll(t *testing.T) {
	m := made(t, 10, 2, 4, 6)
	wantSeen(t, "4 cleared, 9 set", seen(m, func(i int) bool {
		if i == 2 {
			m.Clear(4)
		}
		m.Set(9)
		return true
	}), 2, 6, 9)
	m = made(t, 10, 2, 4, 6)
	wantSeen(t, "1 set behind the place", seen(m, func(i int) bool {
		if i == 2 {
			m.Set(1)
		}
		return true
	}), 2, 4, 6)
	wantSeen(t, "gone over once more", seen(m, goOn), 1, 2, 4, 6)
	wantSeen(t, "no bit", seen(made(t, 1), goOn))
	wantSeen(t, "the edges of words", seen(made(t, 4200, 0, 63, 64, 4095, 4096, 4199), goOn), 0, 63, 64, 4095, 4096, 4199)
}

// P309: the bit at the place, set by the body and cleared again, is not come back to; the next one is seen.
func TestAllAtThePlace(t *testing.T) {
	m := made(t, 130, 5)
	wantSeen(t, "each body sets the next bit and clears its own", seen(m, func(i int) bool {
		m.Set(i + 1)
		m.Clear(i)
		m.Set(i)
		m.Clear(i)
		return i < 128
	}), func() []int {
		var want []int
		for i := 5; i < 129; i++ {
			want = append(want, i)
		}
		return want
	}()...)
	wantSeen(t, "all cleared by the first body", seen(made2(t), goOn), 3, 4)
	m = made2(t)
	wantSeen(t, "all cleared by the first body", seen(m, func(int) bool {
		m.ClearRange(0, 10)
		return true
	}), 3)
	if m.Count() != 0 {
		t.Errorf("the bitmap is not as the body left it: %d", m.Count())
	}
}

func made2(t *testing.T) *Bitmap {
	t.Helper()
	return made(t, 10, 3, 4)
}

// P309: All itself looks at nothing; one iterator may be gone over often, and left early.
func TestAllTakesNothingAhead(t *testing.T) {
	m := made(t, 10, 1)
	all := m.All()
	m.Clear(1)
	m.Set(2)
	m.Set(8)
	wantSeen(t, "what was set since", slices.Collect(all), 2, 8)
	for i := range all {
		if i != 2 {
			t.Errorf("begins at %d", i)
		}
		break
	}
	m.Set(0)
	wantSeen(t, "from the start again", slices.Collect(all), 0, 2, 8)
	calls := 0
	all(func(int) bool {
		calls++
		return false
	})
	if calls != 1 {
		t.Errorf("an iterator that was left yields %d times", calls)
	}
	wantLevels(t, "left early", m, 0x105)
}

// P310.
func TestRuns(t *testing.T) {
	wantRuns(t, made(t, 1))
	wantRuns(t, made(t, 1, 0), 0, 1)
	wantRuns(t, made(t, 10, 0, 1, 5, 9), 0, 2, 5, 1, 9, 1)
	wantRuns(t, made(t, 130, 63, 64, 65, 127, 128, 129), 63, 3, 127, 3)
	full := made(t, api.MaxBits)
	full.SetRange(0, api.MaxBits)
	wantRuns(t, full, 0, api.MaxBits)
	full.Clear(64)
	wantRuns(t, full, 0, 64, 65, api.MaxBits-65)
}

// P310: the run is that of the moment ahead of the body, and the place is its end.
func TestRunsWhileChanged(t *testing.T) {
	m := made(t, 10, 1, 2)
	wantSeen(t, "the body sets the bit at the end", runsSeen(m, func(first int) bool {
		if first == 1 {
			m.SetRange(3, 2)
		}
		return true
	}), 1, 2, 3, 2)
	wantRuns(t, m, 1, 4)
	m = made(t, 10, 1, 2, 3, 7, 8)
	wantSeen(t, "the body clears within the run and ahead", runsSeen(m, func(first int) bool {
		if first == 1 {
			m.Clear(2)
			m.Clear(7)
			m.Set(0)
		}
		return true
	}), 1, 3, 8, 1)
	wantRuns(t, m, 0, 2, 3, 1, 8, 1)
	wantSeen(t, "left early", runsSeen(m, func(first int) bool { return first < 3 }), 0, 2, 3, 1)
	m = made(t, 10, 0)
	wantSeen(t, "the body clears all", runsSeen(m, func(int) bool {
		m.ClearRange(0, 10)
		return true
	}), 0, 1)
}

// P310: Runs itself looks at nothing; one iterator may be gone over often.
func TestRunsTakesNothingAhead(t *testing.T) {
	m := made(t, 10, 1)
	runs := m.Runs()
	m.SetRange(1, 3)
	for range 2 {
		var got []int
		for first, count := range runs {
			got = append(got, first, count)
		}
		wantSeen(t, "runs of now", got, 1, 3)
	}
	calls := 0
	m.Set(8)
	runs(func(int, int) bool {
		calls++
		return false
	})
	if calls != 1 {
		t.Errorf("an iterator that was left yields %d times", calls)
	}
}

// The section 'What is free': each iterator has a place of its own.
func TestIteratorsInOneAnother(t *testing.T) {
	m := made(t, 10, 1, 2, 7)
	all, runs := m.All(), m.Runs()
	var got []int
	for i := range all {
		got = append(got, i)
		for j := range all {
			got = append(got, j)
		}
		for first, count := range runs {
			for f, c := range runs {
				got = append(got, first, count, f, c)
			}
		}
	}
	inner := []int{1, 2, 7, 1, 2, 1, 2, 1, 2, 7, 1, 7, 1, 1, 2, 7, 1, 7, 1}
	var want []int
	for _, i := range []int{1, 2, 7} {
		want = append(append(want, i), inner...)
	}
	wantSeen(t, "iterators in one another", got, want...)
}
