package tlog

import (
	"math"
	"slices"
	"testing"

	"replica/api"
)

// watch: a log whose answers are held against what a test writes down.
type watch struct {
	*Log
	t *testing.T
}

func watched(t *testing.T, limit, epoch int) watch {
	t.Helper()
	l, e := New(limit, epoch)
	if l == nil || e != api.OK {
		t.Fatalf("New(%d, %d): %v", limit, epoch, e)
	}
	return watch{l, t}
}

func (w watch) adds(id, block, want int, full bool, wantE api.Errno) {
	w.t.Helper()
	if n, f, e := w.Add(id, block); n != want || f != full || e != wantE {
		w.t.Errorf("P1003: Add(%d, %d): %d, %v, %v, want %d, %v, %v", id, block, n, f, e, want, full, wantE)
	}
}

func (w watch) closes(number, count int, did bool) {
	w.t.Helper()
	if n, c, d := w.Close(); n != number || c != count || d != did {
		w.t.Errorf("P1004: Close: %d, %d, %v, want %d, %d, %v", n, c, d, number, count, did)
	}
}

func (w watch) acks(id int, want api.Entry, wantE api.Errno) {
	w.t.Helper()
	if x, e := w.Ack(id); x != want || e != wantE {
		w.t.Errorf("P1005: Ack(%d): %v, %v, want %v, %v", id, x, e, want, wantE)
	}
}

func (w watch) barrier(epoch, count int, wantE api.Errno, want ...api.Entry) []api.Entry {
	w.t.Helper()
	x, e := w.Barrier(epoch, count)
	if !slices.Equal(x, want) || e != wantE {
		w.t.Errorf("P1006: Barrier(%d, %d): %v, %v, want %v, %v", epoch, count, x, e, want, wantE)
	}
	return x
}

func (w watch) fails(want ...api.Entry) []api.Entry {
	w.t.Helper()
	x := w.Fail()
	if !slices.Equal(x, want) {
		w.t.Errorf("P1007: Fail: %v, want %v", x, want)
	}
	return x
}

// is: what the log has.
func (w watch) is(open, size, epochs int, unacked ...api.Entry) {
	w.t.Helper()
	if o, s, n := w.Open(), w.Size(), w.Epochs(); o != open || s != size || n != epochs {
		w.t.Errorf("P1008: Open, Size, Epochs: %d, %d, %d, want %d, %d, %d", o, s, n, open, size, epochs)
	}
	if u := w.Unacked(); !slices.Equal(u, unacked) {
		w.t.Errorf("P1008: Unacked: %v, want %v", u, unacked)
	}
}

// settledBelow: the log is settled up to just the numbers below that one.
func (w watch) settledBelow(epoch int) {
	w.t.Helper()
	for _, n := range []int{math.MinInt, -1, 0, epoch - 1, epoch, epoch + 1, 1 << 32, math.MaxInt} {
		if got := w.Settled(n); got != (n < epoch) {
			w.t.Errorf("P1008: Settled(%d): %v, it is settled below %d", n, got, epoch)
		}
	}
}

func (w watch) settledAll() {
	w.t.Helper()
	for _, n := range []int{math.MinInt, -1, 0, 1, 2, w.Open(), 1 << 32, math.MaxInt} {
		if !w.Settled(n) {
			w.t.Errorf("P1008: Settled(%d) of an empty log: false", n)
		}
	}
}

func entry(id, block, epoch int) api.Entry {
	return api.Entry{Id: id, Block: block, Epoch: epoch}
}

// The chapter's examples.
func TestExamples(t *testing.T) {
	w := watched(t, 4, 2)
	w.adds(11, 0, 1, false, api.OK)
	w.adds(12, 5, 1, true, api.OK)
	w.adds(13, 0, 0, false, api.ErrFull)
	w.closes(1, 2, true)
	w.closes(2, 0, false)
	w.adds(13, 0, 2, false, api.OK)
	w.adds(11, 9, 0, false, api.ErrTwice)
	w.adds(0, 9, 0, false, api.ErrArg)
	w.adds(14, 4096, 0, false, api.ErrRange)
	w.adds(0, 4096, 0, false, api.ErrArg)
	w.adds(14, 1, 2, true, api.OK)
	w.adds(15, 1, 0, false, api.ErrFull)
	w.closes(2, 2, true)
	w.adds(15, 1, 0, false, api.ErrFull)
	w.acks(13, entry(13, 0, 2), api.OK)
	w.acks(13, api.Entry{}, api.ErrTwice)
	w.acks(15, api.Entry{}, api.ErrUnknown)
	w.is(3, 4, 2, entry(11, 0, 1), entry(12, 5, 1), entry(14, 1, 2))
	w.settledBelow(1)
	w.barrier(2, 2, api.ErrEpoch)
	w.barrier(1, 1, api.ErrEpoch)
	w.barrier(1, 2, api.OK, entry(11, 0, 1), entry(12, 5, 1))
	w.settledBelow(2)
	w.adds(11, 7, 3, false, api.OK)
	w.fails(entry(13, 0, 2), entry(14, 1, 2), entry(11, 7, 3))
	w.is(1, 0, 0)
	w.settledAll()
	w.barrier(1, 0, api.ErrEpoch)
	w.closes(1, 0, false)
}

// fill adds writes, closing full epochs, until the log is full, and tells how many that took.
func (w watch) fill() int {
	w.t.Helper()
	for id := 1; ; id++ {
		n, full, e := w.Add(id, id%api.MaxBlocks)
		if e == api.ErrFull {
			return id - 1
		}
		if e != api.OK || n != w.Open() || id > api.MaxWrites {
			w.t.Fatalf("P1003: Add(%d): %d, %v, %v", id, n, full, e)
		}
		if full {
			w.Close()
		}
	}
}

// P1002: the limits are taken as they were said.
func TestNew(t *testing.T) {
	for _, limit := range []int{1, 2, 63, 64, 65, 1023, 1024} {
		for _, epoch := range []int{1, 2, 63, 64} {
			w := watched(t, limit, epoch)
			w.is(1, 0, 0)
			w.settledAll()
			w.closes(1, 0, false)
			if got := w.fill(); got != limit {
				t.Errorf("P1002: New(%d, %d) has room for %d", limit, epoch, got)
			}
			if got := w.Epochs(); got != limit/epoch {
				t.Errorf("P1002: New(%d, %d), full: %d closed epochs", limit, epoch, got)
			}
		}
	}
	badLimits := []int{math.MinInt, -1, 0, 1025, 1<<32 + 1, math.MaxInt}
	badEpochs := []int{math.MinInt, -1, 0, 65, 1<<32 + 1, math.MaxInt}
	for _, limit := range badLimits {
		for _, epoch := range append([]int{1, 64}, badEpochs...) {
			refusedNew(t, limit, epoch)
		}
	}
	for _, epoch := range badEpochs {
		refusedNew(t, 1, epoch)
		refusedNew(t, 1024, epoch)
	}
}

func refusedNew(t *testing.T, limit, epoch int) {
	t.Helper()
	if l, e := New(limit, epoch); l != nil || e != api.ErrArg {
		t.Errorf("P1002: New(%d, %d): %v, %v", limit, epoch, l, e)
	}
}

// P1001: logs know nothing of each other.
func TestTwoLogs(t *testing.T) {
	a, b := watched(t, 3, 2), watched(t, 3, 2)
	a.adds(1, 4, 1, false, api.OK)
	a.closes(1, 1, true)
	b.is(1, 0, 0)
	b.acks(1, api.Entry{}, api.ErrUnknown)
	b.adds(1, 9, 1, false, api.OK)
	b.acks(1, entry(1, 9, 1), api.OK)
	a.is(2, 1, 1, entry(1, 4, 1))
	b.fails(entry(1, 9, 1))
	a.is(2, 1, 1, entry(1, 4, 1))
}

// P1003: which error comes first, and that nothing changes by it.
func TestAddRefused(t *testing.T) {
	w := watched(t, 3, 1)
	w.adds(5, 10, 1, true, api.OK)
	w.closes(1, 1, true)
	w.adds(6, 11, 2, true, api.OK)
	w.acks(5, entry(5, 10, 1), api.OK)
	calls := []struct {
		id, block int
		want      api.Errno
	}{
		{0, 0, api.ErrArg}, {-1, 0, api.ErrArg}, {math.MinInt, 0, api.ErrArg}, {-5, 10, api.ErrArg}, {0, -1, api.ErrArg}, {0, 4096, api.ErrArg},
		{5, -1, api.ErrRange}, {5, 4096, api.ErrRange}, {6, math.MinInt, api.ErrRange}, {7, math.MaxInt, api.ErrRange}, {7, 1 << 32, api.ErrRange}, {7, 1<<32 + 1, api.ErrRange},
		{5, 0, api.ErrTwice}, {5, 10, api.ErrTwice}, {6, 4095, api.ErrTwice},
		{7, 0, api.ErrFull}, {7, 10, api.ErrFull}, {math.MaxInt, 4095, api.ErrFull}, {1<<32 + 5, 0, api.ErrFull},
	}
	for _, c := range calls {
		w.adds(c.id, c.block, 0, false, c.want)
		w.is(2, 2, 1, entry(6, 11, 2))
	}
	w.closes(2, 1, true)
	w.adds(7, 10, 3, true, api.OK)
	w.closes(3, 1, true)
	w.adds(8, 10, 0, false, api.ErrFull)
	w.adds(7, 10, 0, false, api.ErrTwice)
	w.is(4, 3, 3, entry(6, 11, 2), entry(7, 10, 3))
}

// P1003: the first and the last id and block, one block many times, and the epoch that stays open though it is full.
func TestAddEdges(t *testing.T) {
	w := watched(t, 8, 4)
	w.adds(1, 0, 1, false, api.OK)
	w.adds(math.MaxInt, 4095, 1, false, api.OK)
	w.adds(1<<32+1, 0, 1, false, api.OK)
	w.adds(2, 0, 1, true, api.OK)
	w.adds(3, 0, 0, false, api.ErrFull)
	all := []api.Entry{entry(1, 0, 1), entry(math.MaxInt, 4095, 1), entry(1<<32+1, 0, 1), entry(2, 0, 1)}
	w.is(1, 4, 0, all...)
	w.barrier(1, 4, api.ErrEpoch) // it is open
	w.closes(1, 4, true)
	w.adds(3, 0, 2, false, api.OK)
	w.barrier(1, 4, api.OK, all...)
	w.is(2, 1, 0, entry(3, 0, 2))
}

// P1003: what left makes room, also for the same id.
func TestRoomAgain(t *testing.T) {
	w := watched(t, 2, 2)
	for round := range 200 {
		w.adds(7, round, round+1, false, api.OK)
		w.adds(3, round, round+1, true, api.OK)
		w.acks(3, entry(3, round, round+1), api.OK)
		w.closes(round+1, 2, true)
		w.adds(9, round, 0, false, api.ErrFull)
		w.barrier(round+1, 2, api.OK, entry(7, round, round+1), entry(3, round, round+1))
		w.acks(3, api.Entry{}, api.ErrUnknown)
		w.acks(7, api.Entry{}, api.ErrUnknown)
		w.is(round+2, 0, 0)
		w.settledAll()
	}
	w.fails()
	w.adds(7, 1, 1, false, api.OK)
}

// P1005: an Ack takes nothing out, and an id that left is unknown.
func TestAck(t *testing.T) {
	w := watched(t, 4, 2)
	for _, id := range []int{math.MinInt, -1, 0, 1, math.MaxInt} {
		w.acks(id, api.Entry{}, api.ErrUnknown)
	}
	w.adds(1, 8, 1, false, api.OK)
	w.adds(2, 8, 1, true, api.OK)
	w.acks(1<<32+1, api.Entry{}, api.ErrUnknown)
	w.acks(2, entry(2, 8, 1), api.OK) // of the open epoch
	w.is(1, 2, 0, entry(1, 8, 1))
	w.closes(1, 2, true)
	w.acks(2, api.Entry{}, api.ErrTwice)
	w.acks(1, entry(1, 8, 1), api.OK)
	w.acks(1, api.Entry{}, api.ErrTwice)
	w.is(2, 2, 1)
	w.settledBelow(1)
	w.adds(1, 0, 0, false, api.ErrTwice)
	w.fails(entry(1, 8, 1), entry(2, 8, 1))
	w.acks(1, api.Entry{}, api.ErrUnknown)
	w.adds(1, 3, 1, false, api.OK)
	w.is(1, 1, 0, entry(1, 3, 1)) // not acked, though one with its id was
}

// P1006: only the oldest closed epoch, with its own count, acked or not.
func TestBarrierRefused(t *testing.T) {
	w := watched(t, 9, 3)
	w.barrier(1, 0, api.ErrEpoch)
	w.adds(1, 1, 1, false, api.OK)
	for _, count := range []int{0, 1, 2} {
		w.barrier(1, count, api.ErrEpoch)
	}
	w.adds(2, 2, 1, false, api.OK)
	w.closes(1, 2, true)
	w.adds(3, 3, 2, false, api.OK)
	w.closes(2, 1, true)
	w.adds(4, 4, 3, false, api.OK)
	w.acks(2, entry(2, 2, 1), api.OK)
	rest := []api.Entry{entry(1, 1, 1), entry(3, 3, 2), entry(4, 4, 3)}
	numbers := []int{math.MinInt, -1, 0, 1, 2, 3, 4, 1<<32 + 1, 1<<32 + 2, math.MaxInt}
	for _, epoch := range numbers {
		for _, count := range numbers {
			if epoch != 1 || count != 2 {
				w.barrier(epoch, count, api.ErrEpoch)
				w.is(3, 4, 2, rest...)
			}
		}
	}
	w.barrier(1, 2, api.OK, entry(1, 1, 1), entry(2, 2, 1))
	w.barrier(1, 2, api.ErrEpoch)
	w.barrier(2, 2, api.ErrEpoch)
	w.barrier(2, 1, api.OK, entry(3, 3, 2))
	w.barrier(3, 1, api.ErrEpoch)
	w.is(3, 1, 0, entry(4, 4, 3))
	w.settledBelow(3)
}

// P1007: closed and open epochs, acked or not; then all begins anew.
func TestFail(t *testing.T) {
	w := watched(t, 4, 2)
	w.fails()
	w.is(1, 0, 0)
	for range 3 {
		w.adds(1, 1, 1, false, api.OK)
		w.closes(1, 1, true)
		w.adds(9, 2, 2, false, api.OK)
		w.adds(8, 3, 2, true, api.OK)
		w.closes(2, 2, true)
		w.adds(2, 4, 3, false, api.OK)
		w.acks(9, entry(9, 2, 2), api.OK)
		w.fails(entry(1, 1, 1), entry(9, 2, 2), entry(8, 3, 2), entry(2, 4, 3))
		w.is(1, 0, 0)
		w.settledAll()
		w.barrier(1, 1, api.ErrEpoch)
		w.closes(1, 0, false)
		w.fails()
	}
	w.adds(1, 1, 1, false, api.OK)
	w.closes(1, 1, true)
	w.barrier(1, 1, api.OK, entry(1, 1, 1))
	w.fails() // no write, but the open epoch is another
	w.is(1, 0, 0)
}

// P1008: the open epoch's number is settled just if the log is empty.
func TestSettled(t *testing.T) {
	w := watched(t, 6, 3)
	w.adds(1, 0, 1, false, api.OK)
	w.settledBelow(1)
	w.closes(1, 1, true)
	w.settledBelow(1)
	w.adds(2, 0, 2, false, api.OK)
	w.acks(1, entry(1, 0, 1), api.OK)
	w.settledBelow(1)
	w.barrier(1, 1, api.OK, entry(1, 0, 1))
	w.settledBelow(2)
	w.closes(2, 1, true)
	w.settledBelow(2)
	w.barrier(2, 1, api.OK, entry(2, 0, 2))
	w.settledAll()
}

// P1008: writes are told in the order in which they were added, whatever their ids, and however often it is asked.
func TestUnackedOrder(t *testing.T) {
	w := watched(t, api.MaxWrites, api.MaxEpoch)
	d := dice(3)
	var want []api.Entry
	for i := range api.MaxWrites {
		id := 1 + i*7919%100003 // falls and rises
		x := entry(id, d.below(api.MaxBlocks), 1+i/api.MaxEpoch)
		w.adds(x.Id, x.Block, x.Epoch, i%api.MaxEpoch == api.MaxEpoch-1, api.OK)
		if i%api.MaxEpoch == api.MaxEpoch-1 {
			w.closes(x.Epoch, api.MaxEpoch, true)
		}
		want = append(want, x)
	}
	for range 5 {
		w.is(17, 1024, 16, want...)
	}
	for range 300 {
		at := d.below(len(want))
		w.acks(want[at].Id, want[at], api.OK)
		want = slices.Delete(want, at, at+1)
		w.is(17, 1024, 16, want...)
	}
}

// P1001: what a caller writes into a list, or appends to it, is seen by no later answer.
func TestNewMemory(t *testing.T) {
	w := watched(t, 9, 2)
	build := func() {
		for id := 1; id <= 4; id++ {
			w.adds(id, id, 1+(id-1)/2, id%2 == 0, api.OK)
			if id%2 == 0 {
				w.closes(id/2, 2, true)
			}
		}
		w.adds(5, 5, 3, false, api.OK)
	}
	build()
	all := []api.Entry{entry(1, 1, 1), entry(2, 2, 1), entry(3, 3, 2), entry(4, 4, 2), entry(5, 5, 3)}
	spoil(w.Unacked())
	w.is(3, 5, 2, all...)
	first := w.barrier(1, 2, api.OK, all[:2]...)
	spoil(first)
	w.is(3, 3, 1, all[2:]...)
	longer := append(first, entry(90, 90, 90), entry(91, 91, 91), entry(92, 92, 92))
	w.is(3, 3, 1, all[2:]...)
	w.adds(6, 6, 3, true, api.OK)
	second := w.barrier(2, 2, api.OK, all[2:4]...)
	third := w.fails(all[4], entry(6, 6, 3))
	build()
	if longer[2] != entry(90, 90, 90) || longer[4] != entry(92, 92, 92) {
		t.Errorf("P1001: what was appended to a list is %v", longer)
	}
	if !slices.Equal(second, all[2:4]) || !slices.Equal(third, []api.Entry{all[4], entry(6, 6, 3)}) {
		t.Errorf("P1001: what left is %v, %v later", second, third)
	}
	spoil(third)
	w.is(3, 5, 2, all...)
	spoil(second)
	w.fails(all...)
}
