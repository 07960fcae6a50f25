package tlog

import (
	"math"
	"slices"
	"testing"

	"replica/api"
)

// dice: numbers that look like chance and are the same each time.
type dice uint64

func (d *dice) below(n int) int {
	*d = *d*6364136223846793005 + 1442695040888963407
	return int(uint64(*d) >> 33 % uint64(n))
}

// pair: the log and its model, that are given the same calls.
type pair struct {
	t     *testing.T
	l     *Log
	p     *plain
	step  int
	added []api.Entry // that have not left, by P1009
	next  int         // the epoch that leaves next, by P1009
	lists [][]api.Entry
	kept  [][]api.Entry // what those lists held when they were answered
}

func newPair(t *testing.T, limit, most int) *pair {
	t.Helper()
	l, e := New(limit, most)
	if l == nil || e != api.OK {
		t.Fatalf("New(%d, %d): %v", limit, most, e)
	}
	return &pair{t: t, l: l, p: newPlain(limit, most), next: 1}
}

// spoil writes over a list and its spare room: whoever keeps the same memory is found out by what it tells next.
func spoil(list []api.Entry) {
	list = list[:cap(list)]
	for i := range list {
		list[i] = api.Entry{Id: 987654321 + i, Block: -i, Epoch: 77}
	}
}

// keep lays a list by, to see that no later call changes it; every other one is spoilt instead.
func (c *pair) keep(list []api.Entry) {
	if c.step%2 == 0 {
		spoil(list)
		return
	}
	if len(c.lists) == 20 {
		c.lists, c.kept = c.lists[1:], c.kept[1:]
	}
	c.lists, c.kept = append(c.lists, list), append(c.kept, slices.Clone(list))
}

func (c *pair) add(id, block int) {
	c.t.Helper()
	c.step++
	n, full, e := c.l.Add(id, block)
	if want, wantFull, wantE := c.p.add(id, block); n != want || full != wantFull || e != wantE {
		c.t.Fatalf("step %d: P1003: Add(%d, %d): %d, %v, %v, want %d, %v, %v", c.step, id, block, n, full, e, want, wantFull, wantE)
	}
	if e == api.OK {
		c.added = append(c.added, api.Entry{Id: id, Block: block, Epoch: n})
	}
}

func (c *pair) close() {
	c.t.Helper()
	c.step++
	n, count, did := c.l.Close()
	if want, wantCount, wantDid := c.p.close(); n != want || count != wantCount || did != wantDid {
		c.t.Fatalf("step %d: P1004: Close: %d, %d, %v, want %d, %d, %v", c.step, n, count, did, want, wantCount, wantDid)
	}
}

func (c *pair) ack(id int) {
	c.t.Helper()
	c.step++
	x, e := c.l.Ack(id)
	if want, wantE := c.p.ack(id); x != want || e != wantE {
		c.t.Fatalf("step %d: P1005: Ack(%d): %v, %v, want %v, %v", c.step, id, x, e, want, wantE)
	}
}

func (c *pair) barrier(epoch, count int) {
	c.t.Helper()
	c.step++
	x, e := c.l.Barrier(epoch, count)
	if want, wantE := c.p.barrier(epoch, count); !slices.Equal(x, want) || e != wantE {
		c.t.Fatalf("step %d: P1006: Barrier(%d, %d): %v, %v, want %v, %v", c.step, epoch, count, x, e, want, wantE)
	}
	if e == api.OK {
		if epoch != c.next || !slices.Equal(x, c.added[:len(x)]) {
			c.t.Fatalf("step %d: P1009: epoch %d leaves with %v, next are %d, %v", c.step, epoch, x, c.next, c.added)
		}
		c.next++
		c.added = c.added[len(x):]
	}
	c.keep(x)
}

func (c *pair) fail() {
	c.t.Helper()
	c.step++
	x := c.l.Fail()
	if want := c.p.fail(); !slices.Equal(x, want) {
		c.t.Fatalf("step %d: P1007: Fail: %v, want %v", c.step, x, want)
	}
	if !slices.Equal(x, c.added) {
		c.t.Fatalf("step %d: P1009: Fail: %v, added were %v", c.step, x, c.added)
	}
	c.next, c.added = 1, nil
	c.keep(x)
}

// alike holds what P1008 tells against the model, and the lists of earlier answers against what they held.
func (c *pair) alike() {
	c.t.Helper()
	if o, s, n := c.l.Open(), c.l.Size(), c.l.Epochs(); o != c.p.open() || s != c.p.size() || n != c.p.closed() {
		c.t.Fatalf("step %d: P1008: Open, Size, Epochs: %d, %d, %d, want %d, %d, %d", c.step, o, s, n, c.p.open(), c.p.size(), c.p.closed())
	}
	u := c.l.Unacked()
	if want := c.p.all(false); !slices.Equal(u, want) {
		c.t.Fatalf("step %d: P1008: Unacked: %v, want %v", c.step, u, want)
	}
	spoil(u)
	first, open := c.p.first, c.p.open()
	for _, epoch := range []int{math.MinInt, 0, 1, first - 1, first, first + 1, open - 1, open, open + 1, math.MaxInt} {
		if got, want := c.l.Settled(epoch), c.p.settled(epoch); got != want {
			c.t.Fatalf("step %d: P1008: Settled(%d): %v, want %v", c.step, epoch, got, want)
		}
	}
	for i, list := range c.lists {
		if !slices.Equal(list, c.kept[i]) {
			c.t.Fatalf("step %d: P1001: a list that held %v holds %v", c.step, c.kept[i], list)
		}
	}
}

// due makes the Barrier that the log waits for, if it waits for one.
func (c *pair) due() {
	c.t.Helper()
	c.barrier(c.p.first, len(c.p.epochs[0]))
}

// chance makes one call, wrong ones now and then.
func (c *pair) chance(d *dice, ids []int) {
	c.t.Helper()
	id, block := ids[d.below(len(ids))], d.below(api.MaxBlocks)
	if d.below(40) == 0 {
		far := []int{math.MinInt, -1, 4096, 1 << 32, math.MaxInt}
		block = far[d.below(len(far))]
	}
	if d.below(40) == 0 {
		far := []int{math.MinInt, -1, 0}
		id = far[d.below(len(far))]
	}
	switch n := d.below(100); {
	case n < 45:
		c.add(id, block)
	case n < 60:
		c.close()
	case n < 80:
		c.ack(id)
	case n < 92:
		c.due()
	case n < 99:
		c.barrier(c.p.first+d.below(3)-1, d.below(c.p.most+2))
	default:
		c.fail()
	}
}

// P1003 to P1009, in long rows of calls.
func TestRows(t *testing.T) {
	sizes := [][3]int{{1, 1, 2}, {1, 64, 3}, {2, 1, 4}, {3, 2, 6}, {4, 4, 8}, {7, 3, 20}, {12, 5, 9}, {40, 8, 60}}
	for i, s := range sizes {
		d := dice(i + 1)
		c := newPair(t, s[0], s[1])
		ids := []int{math.MaxInt, 1, 1 << 32, 2}
		for len(ids) < s[2] {
			ids = append(ids, 1+d.below(1<<30))
		}
		for range 20000 {
			c.chance(&d, ids[:s[2]])
			c.alike()
		}
	}
}

// P1003 to P1009, in a great log, that is full at times and empty at times.
func TestGreatLog(t *testing.T) {
	d := dice(99)
	c := newPair(t, api.MaxWrites, api.MaxEpoch)
	full, id := 0, 0
	for round := range 6 {
		for range 2500 {
			id++
			c.add(id, d.below(api.MaxBlocks))
			c.ack(1 + d.below(id))
			if d.below(50) == 0 || len(*c.p.last()) == api.MaxEpoch {
				c.close()
			}
			if d.below(80) == 0 {
				c.due()
			}
			if c.l.Size() == api.MaxWrites {
				full++
			}
			if id%50 == 0 {
				c.alike()
			}
		}
		if round%2 == 1 {
			c.fail()
		}
		for c.p.closed() > 0 {
			c.due()
		}
		c.alike()
	}
	if full == 0 {
		t.Fatal("never full")
	}
}

// P1003 to P1009: every row of a few calls on small logs.
func TestEveryRow(t *testing.T) {
	calls := []func(c *pair){
		func(c *pair) { c.add(3, 0) }, func(c *pair) { c.add(1, 1) }, func(c *pair) { c.add(2, 0) },
		(*pair).close, (*pair).due, (*pair).fail,
		func(c *pair) { c.ack(1) }, func(c *pair) { c.ack(3) },
	}
	const length = 5
	rows := 1
	for range length {
		rows *= len(calls)
	}
	for _, s := range [][2]int{{1, 1}, {2, 1}, {2, 2}, {3, 2}} {
		for row := range rows {
			c := newPair(t, s[0], s[1])
			for range length {
				calls[row%len(calls)](c)
				row /= len(calls)
			}
			c.alike()
			everyBarrier(c)
		}
	}
}

// everyBarrier: in this state each Barrier but the one that is due is refused and changes nothing.
func everyBarrier(c *pair) {
	c.t.Helper()
	for epoch := c.p.first - 1; epoch <= c.p.open()+1; epoch++ {
		for count := -1; count <= c.p.most+1; count++ {
			if c.p.closed() > 0 && epoch == c.p.first && count == len(c.p.epochs[0]) {
				continue
			}
			c.barrier(epoch, count)
		}
	}
	c.due()
	c.alike()
}
