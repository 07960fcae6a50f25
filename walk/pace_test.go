package walk

import (
	"math"
	"testing"

	"replica/api"
)

// dice: numbers that look like chance and are the same each time.
type dice uint64

func (d *dice) below(n int) int {
	*d = *d*6364136223846793005 + 1442695040888963407
	return int(uint64(*d) >> 33 % uint64(n))
}

func newPace(t *testing.T, rate, burst int) *Pace {
	t.Helper()
	p, e := NewPace(rate, burst)
	if p == nil || e != api.OK {
		t.Fatalf("P1302: NewPace(%d, %d): %v, %v", rate, burst, p, e)
	}
	return p
}

func wantTake(t *testing.T, p *Pace, n int, want bool) {
	t.Helper()
	before := p.Level()
	got := p.Take(n)
	if got != want {
		t.Errorf("P1303: Take(%d) at %d: %v", n, before, got)
	}
	if got {
		before -= n
	}
	if p.Level() != before {
		t.Errorf("P1303: behind Take(%d), %v: Level %d, want %d", n, got, p.Level(), before)
	}
}

func wantLevel(t *testing.T, p *Pace, want int) {
	t.Helper()
	for range 2 {
		if got := p.Level(); got != want {
			t.Fatalf("P1303: Level %d, want %d", got, want)
		}
	}
}

// P1302: every pair of numbers about the edges.
func TestNewPace(t *testing.T) {
	numbers := []int{math.MinInt, -1024, -1, 0, 1, 2, 5, 1023, 1024, 1025, 1 << 32, 1<<32 + 1, math.MaxInt}
	for _, rate := range numbers {
		for _, burst := range numbers {
			if rate >= 1 && rate <= 1024 && burst >= 1 && burst <= 1024 {
				wantLevel(t, newPace(t, rate, burst), burst)
				continue
			}
			if p, e := NewPace(rate, burst); p != nil || e != api.ErrArg {
				t.Errorf("P1302: NewPace(%d, %d): %v, %v", rate, burst, p, e)
			}
		}
	}
}

// Example 1.
func TestPaceExample(t *testing.T) {
	p := newPace(t, 3, 5)
	wantLevel(t, p, 5)
	wantTake(t, p, 6, false)
	wantTake(t, p, 4, true)
	wantTake(t, p, 2, false)
	p.Tick()
	wantLevel(t, p, 4)
	p.Tick()
	wantLevel(t, p, 5)
	wantTake(t, p, 0, false)
	wantTake(t, p, -1, false)
	wantTake(t, p, 5, true)
	wantLevel(t, p, 0)
	p = newPace(t, 1024, 1)
	wantTake(t, p, 1, true)
	p.Tick()
	wantLevel(t, p, 1)
}

// P1303: what is no number of tokens is refused at every level, an empty and a full one among them.
func TestTakeEdges(t *testing.T) {
	for _, burst := range []int{1, 2, 7, 1023, 1024} {
		p := newPace(t, 1, burst)
		for level := burst; level >= 0; level-- {
			wantLevel(t, p, level)
			for _, n := range []int{math.MinInt, -burst, -1, 0, level + 1, burst + 1, 1 << 32, math.MaxInt} {
				wantTake(t, p, n, false)
			}
			if level > 0 {
				wantTake(t, p, 1, true)
			}
		}
		p.Tick()
		wantTake(t, p, 1, true)
		wantTake(t, p, 1, false)
	}
	p := newPace(t, 1, 1024)
	wantTake(t, p, 1024, true)
	wantTake(t, p, 1, false)
}

// P1303: Take, Tick and Level in a long row, beside a plain count and the two bounds that follow from it.
func TestPaceRows(t *testing.T) {
	d := dice(13)
	sizes := []int{1, 2, 3, 5, 8, 100, 1023, 1024}
	for _, rate := range sizes {
		for _, burst := range sizes {
			p := newPace(t, rate, burst)
			level, ticks, taken := burst, 0, 0
			for range 400 {
				if d.below(3) == 0 {
					p.Tick()
					ticks++
					level += rate
					if level > burst {
						level = burst
					}
				} else {
					n := d.below(min(burst, 2*rate)+3) - 1
					wantTake(t, p, n, n >= 1 && n <= level)
					if n >= 1 && n <= level {
						level -= n
						taken += n
					}
				}
				wantLevel(t, p, level)
				if taken > burst+ticks*rate {
					t.Fatalf("P1303: NewPace(%d, %d): %d taken behind %d ticks", rate, burst, taken, ticks)
				}
			}
		}
	}
}

// P1303: who takes one at a time, as long as there is one, gets the lesser of rate and burst a tick.
func TestPaceOfOnes(t *testing.T) {
	for _, rate := range []int{1, 2, 3, 16, 1024} {
		for _, burst := range []int{1, 2, 3, 16, 1024} {
			p := newPace(t, rate, burst)
			taken := 0
			for ticks := range 20 {
				for p.Take(1) {
					taken++
				}
				if want := burst + ticks*min(rate, burst); taken != want {
					t.Fatalf("P1303: NewPace(%d, %d): %d taken behind %d ticks, want %d", rate, burst, taken, ticks, want)
				}
				p.Tick()
			}
		}
	}
}

// P1301: two paces know nothing of each other.
func TestPacesApart(t *testing.T) {
	one, two := newPace(t, 2, 9), newPace(t, 2, 9)
	wantTake(t, one, 9, true)
	wantLevel(t, two, 9)
	wantTake(t, two, 4, true)
	one.Tick()
	wantLevel(t, one, 2)
	wantLevel(t, two, 5)
	newPace(t, 1, 1).Take(1)
	wantLevel(t, one, 2)
	wantLevel(t, two, 5)
}
