package walk

import (
	"runtime"
	"sync"
	"sync/atomic"
	"testing"
	"time"
)

// permute hands every order of the numbers below n to see.
func permute(n int, see func([]int)) {
	row := make([]int, n)
	for i := range row {
		row[i] = i
	}
	var place func(int)
	place = func(k int) {
		if k == n {
			see(row)
			return
		}
		for i := k; i < n; i++ {
			row[k], row[i] = row[i], row[k]
			place(k + 1)
			row[k], row[i] = row[i], row[k]
		}
	}
	place(0)
}

// stands tells how many of the findings, in that order, make the answer stand, and the answer.
func stands(order []int, differs int) (int, int) {
	least := -1
	for i := len(order) - 1; i >= 0; i-- {
		if differs>>i&1 == 1 {
			least = i
		}
	}
	needed := 0
	for k, i := range order {
		if i <= least || least < 0 {
			needed = k + 1
		}
	}
	return needed, least
}

// P1309, P1310: in whatever order the findings come, the answer is the least, and it stands as soon as nothing ahead of it is open.
func TestEveryOrderOfFindings(t *testing.T) {
	for n := 0; n <= 6; n++ {
		permute(n, func(order []int) {
			for differs := range 1 << n {
				found := make(chan finding, n)
				for _, i := range order {
					found <- finding{block: i, differs: differs>>i&1 == 1}
				}
				got := leastFound(n, found)
				needed, want := stands(order, differs)
				if got != want || n-len(found) != needed {
					t.Fatalf("P1310: order %v, differing %b: %d by %d findings, want %d by %d", order, differs, got, n-len(found), want, needed)
				}
			}
		})
	}
}

// P1310: a pair of blocks of which the second is always found first, at every place.
func TestTheLaterIsFoundFirst(t *testing.T) {
	for workers := 2; workers <= 16; workers++ {
		for pair := 0; pair < 20; pair++ {
			for _, also := range []bool{false, true} {
				ended := make(chan struct{})
				got := leastWhere(24, workers, func(i int) bool {
					switch {
					case i == pair:
						<-ended
						return also
					case i == pair+1:
						defer close(ended)
						return true
					}
					return i > pair
				})
				want := pair + 1
				if also {
					want = pair
				}
				if got != want {
					t.Fatalf("P1310: %d workers, %d found behind %d: %d, want %d", workers, pair, pair+1, got, want)
				}
			}
		}
	}
}

// P1310: each block is looked at once at most, all ahead of the answer are, and no look goes on behind the call.
func TestLooksHaveEnded(t *testing.T) {
	const count = 200
	for workers := 1; workers <= 16; workers++ {
		for _, least := range []int{-1, 0, 1, 7, 100, count - 1} {
			var running atomic.Int32
			var looks [count]atomic.Int32
			got := leastWhere(count, workers, func(i int) bool {
				running.Add(1)
				defer running.Add(-1)
				looks[i].Add(1)
				if i%10 == 0 {
					time.Sleep(time.Millisecond / 10)
				}
				return least >= 0 && i >= least
			})
			if got != least || running.Load() != 0 {
				t.Fatalf("P1310: %d workers: %d, want %d; %d looks go on", workers, got, least, running.Load())
			}
			for i := range looks {
				n := looks[i].Load()
				if n > 1 || n == 0 && (i <= least || least < 0) {
					t.Fatalf("P1310: %d workers, answer %d: block %d was looked at %d times", workers, got, i, n)
				}
			}
		}
	}
}

// Ways: once the answer stands, what is not needed is not looked at.
func TestWhatIsNotNeededIsCancelled(t *testing.T) {
	const count = 4096
	for workers := 1; workers <= 16; workers += 5 {
		var looks atomic.Int32
		got := leastWhere(count, workers, func(i int) bool {
			looks.Add(1)
			if i > 0 {
				time.Sleep(time.Millisecond)
			}
			return i == 0
		})
		if got != 0 || looks.Load() > count/2 {
			t.Errorf("%d workers: %d, behind %d looks", workers, got, looks.Load())
		}
	}
}

// Ways: who hands out sends in rising order, closes behind the last, and stops when it is told to, though nobody receives.
func TestHandOut(t *testing.T) {
	for _, count := range []int{0, 1, 2, 50} {
		numbers, done := make(chan int), make(chan struct{})
		go handOut(count, numbers, done)
		next := 0
		for i := range numbers {
			if i != next {
				t.Fatalf("%d of %d, want %d", i, count, next)
			}
			next++
		}
		if next != count {
			t.Fatalf("%d numbers of %d", next, count)
		}
	}
	numbers, done := make(chan int), make(chan struct{})
	go handOut(10, numbers, done)
	<-numbers
	close(done)
	// A number may still come where both are ready; the end comes all the same.
	for range numbers {
	}
	stopped := make(chan int)
	handOut(10, stopped, done)
	if _, more := <-stopped; more {
		t.Errorf("a number behind the end")
	}
}

// P1310: no goroutine of a call is left behind.
func TestNoneIsLeft(t *testing.T) {
	d := dice(1310)
	blocks := randomBlocks(&d, 100, 100)
	sums := plainSums(blocks)
	before := runtime.NumGoroutine()
	for range 50 {
		i := d.below(len(sums))
		sums[i][3] ^= 1
		wantDiffer(t, blocks, sums, 16, i)
		sums[i][3] ^= 1
		wantSums(t, blocks, 16, sums)
	}
	// One that has told its end may not have left the runtime's count yet.
	for range 1000 {
		if runtime.NumGoroutine() <= before {
			return
		}
		time.Sleep(time.Millisecond)
	}
	t.Errorf("P1310: %d goroutines, %d ahead of the calls", runtime.NumGoroutine(), before)
}

// P2, P1310: calls at the same time do not disturb each other.
func TestCallsSideBySide(t *testing.T) {
	d := dice(2)
	blocks := randomBlocks(&d, 60, 100)
	sums := plainSums(blocks)
	wrong := plainSums(blocks)
	wrong[41][0]++
	wrong[42][0]++
	var group sync.WaitGroup
	for caller := range 8 {
		group.Add(1)
		go func() {
			defer group.Done()
			for range 20 {
				if got, _ := Sums(blocks, 1+caller); len(got) != 60 || got[59] != sums[59] {
					t.Errorf("P1310: Sums by caller %d", caller)
				}
				if i, _ := Differ(blocks, wrong, 16-caller); i != 41 {
					t.Errorf("P1310: Differ by caller %d: %d", caller, i)
				}
			}
		}()
	}
	group.Wait()
}
