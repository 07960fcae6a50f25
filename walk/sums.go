package walk

import (
	"sync"

	"replica/api"
	"replica/digest"
)

const maxWorkers = 16

// Sums tells the digests of blocks, in order, computed by that many workers.
func Sums(blocks [][]byte, workers int) ([][32]byte, api.Errno) {
	if e := checkTask(blocks, workers); e != api.OK {
		return nil, e
	}
	sums := make([][32]byte, len(blocks))
	numbers := make(chan int)
	var group sync.WaitGroup
	startWorkers(&group, workers, numbers, func(i int) {
		sums[i] = digest.Sum256(blocks[i])
	})
	for i := range blocks {
		numbers <- i
	}
	close(numbers)
	group.Wait()
	return sums, api.OK
}

// Differ tells the least i for which the digest of blocks[i] is not sums[i]; -1: there is none. That many workers look; they stop when they are not needed any more.
func Differ(blocks [][]byte, sums [][32]byte, workers int) (int, api.Errno) {
	if e := checkTask(blocks, workers); e != api.OK {
		return 0, e
	}
	if len(sums) != len(blocks) {
		return 0, api.ErrSize
	}
	return leastWhere(len(blocks), workers, func(i int) bool {
		return digest.Sum256(blocks[i]) != sums[i]
	}), api.OK
}

// leastWhere tells the least number below count that differs; -1: there is none. Which workers come first is not to be seen in it.
func leastWhere(count int, workers int, differs func(int) bool) int {
	numbers, done := make(chan int), make(chan struct{})
	// It has room for all: nobody receives any more once the answer stands, and no worker may wait for that.
	found := make(chan finding, count)
	var group sync.WaitGroup
	group.Add(1)
	go func() {
		defer group.Done()
		handOut(count, numbers, done)
	}()
	startWorkers(&group, workers, numbers, func(i int) {
		found <- finding{block: i, differs: differs(i)}
	})
	least := leastFound(count, found)
	close(done)
	group.Wait()
	return least
}

// finding: what a worker found of one block.
type finding struct {
	block   int
	differs bool
}

func checkTask(blocks [][]byte, workers int) api.Errno {
	if workers < 1 || workers > maxWorkers {
		return api.ErrArg
	}
	if len(blocks) > api.MaxBlocks {
		return api.ErrLong
	}
	return api.OK
}

// startWorkers lets that many workers look at the blocks whose numbers they receive, until there are no more.
func startWorkers(group *sync.WaitGroup, workers int, numbers <-chan int, look func(int)) {
	for range workers {
		group.Add(1)
		go func() {
			defer group.Done()
			for i := range numbers {
				look(i)
			}
		}()
	}
}

// handOut sends the numbers below count in rising order, until it is told that no more are needed; the workers end by that too.
func handOut(count int, numbers chan<- int, done <-chan struct{}) {
	defer close(numbers)
	for i := range count {
		select {
		case numbers <- i:
		case <-done:
			return
		}
	}
}

// leastFound receives what was found, in any order, no longer than until every block ahead of the least one that differs was looked at; -1: none differs.
func leastFound(count int, found <-chan finding) int {
	looked := make([]bool, count)
	front, least := 0, count // every block below front was looked at
	for front < least {
		f := <-found
		looked[f.block] = true
		if f.differs {
			least = min(least, f.block)
		}
		for front < least && looked[front] {
			front++
		}
	}
	if least == count {
		return -1
	}
	return least
}
