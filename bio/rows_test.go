package bio

import (
	"bytes"
	"flag"
	"math"
	"slices"
	"testing"

	"replica/api"
)

var (
	storyCount = flag.Int("stories", 300, "how many random stories each test of them plays")
	storySeed  = flag.Int("seed", 0, "other random stories")
)

// pair: a queue and its model, that are given the same calls.
type pair struct {
	t    *testing.T
	q    *Queue
	p    *plain
	dice *dice
	met  map[string]int
	ids  int
	step int
	kept []keptList
}

// keptList: memory that a call gave, and what it held then.
type keptList struct {
	now, then []byte
}

func newPair(t *testing.T, d *dice, met map[string]int) *pair {
	t.Helper()
	blocks, size, depth := d.one(1, 2, 3, 4, 5, 6, 40), d.one(128, 256, 512, 1024), d.one(1, 2, 3, 4, 5, 8, 256)
	q, e := New(blocks, size, depth)
	if q == nil || e != api.OK {
		t.Fatalf("P2102: New(%d, %d, %d): %v", blocks, size, depth, e)
	}
	return &pair{t: t, q: q, p: newPlain(blocks, size, depth), dice: d, met: met}
}

// rolled: a request, mostly one that can be taken.
func (c *pair) rolled() api.Request {
	d := c.dice
	c.ids++
	r := d.request(c.ids, c.p.blocks, c.p.size)
	odd := []int{math.MinInt, -1, 0, 1, 2, c.p.size, c.p.blocks * c.p.size, c.p.blocks*c.p.size + 1, 65536, 65537, math.MaxInt - 1, math.MaxInt}
	switch d.below(40) {
	case 0:
		r.Id = d.one(odd...)
	case 1:
		r.Kind = d.one(odd...)
	case 2:
		r.Offset = d.one(odd...)
	case 3:
		r.Length = d.one(odd...)
	case 4:
		r.Data = d.some(d.below(300))
	case 5:
		r.Id = 1 + d.below(c.ids)
	case 6:
		r = api.Request{Id: d.one(odd...), Kind: d.one(odd...), Offset: d.one(odd...), Length: d.one(odd...), Data: r.Data}
	case 7:
		r.Offset = c.p.blocks*c.p.size - r.Length
	case 8:
		r.Offset = c.p.blocks*c.p.size - r.Length + 1
	}
	return r
}

func (c *pair) request(r api.Request) {
	c.t.Helper()
	ops, list, e := c.p.request(r)
	c.lend("Request", r.Data, gives{ops, list}, e, func(data []byte) ([]api.Op, []api.Reply, api.Errno) {
		r.Data = data
		return c.q.Request(r)
	})
}

// answer gives an answer, mostly one that is waited for.
func (c *pair) answer() {
	c.t.Helper()
	d := c.dice
	a := api.Answer{Id: d.one(0, -1, 1, c.p.numbers, c.p.numbers+1, 1+d.below(c.p.numbers+1), math.MaxInt, math.MinInt)}
	if len(c.p.under) > 0 && d.below(12) > 0 {
		a.Id = c.p.under[d.below(len(c.p.under))].id
	}
	if d.below(10) == 0 {
		a.Err = api.Errno(d.one(int(api.ErrMedium), int(api.ErrPower), 1, 999, -5, math.MaxInt, math.MinInt))
	}
	a.Data = d.some(c.p.size)
	if d.below(8) == 0 {
		a.Data = d.some(d.one(0, 1, 127, 128, 129, c.p.size-1, c.p.size+1))
	}
	ops, list, e := c.p.answered(a)
	c.lend("Answered", a.Data, gives{ops, list}, e, func(data []byte) ([]api.Op, []api.Reply, api.Errno) {
		a.Data = data
		return c.q.Answered(a)
	})
}

// lend hands data with spare room behind them to a call, and writes over them behind it: neither is the call to change them nor to keep them.
func (c *pair) lend(what string, data []byte, want gives, wantE api.Errno, call func(data []byte) ([]api.Op, []api.Reply, api.Errno)) {
	c.t.Helper()
	all := append(bytes.Clone(data), c.dice.some(c.dice.below(4))...)
	before := bytes.Clone(all)
	ops, list, e := call(all[:len(data):len(all)])
	if !bytes.Equal(all, before) {
		c.t.Fatalf("step %d: P2101: %s changes what it is given", c.step, what)
	}
	clobber(all)
	c.same(what, gives{ops, list}, e, want, wantE)
}

func (c *pair) lose() {
	c.t.Helper()
	got, want := c.q.Lost(), c.p.lost()
	if !slices.Equal(got, want) {
		c.t.Fatalf("step %d: P2106: Lost: %v, want %v", c.step, got, want)
	}
	clobberInts(got)
	c.look()
}

// same holds what a call gave against the model, and then lays it by or writes over it: whoever keeps the same memory is found out.
func (c *pair) same(what string, got gives, e api.Errno, want gives, wantE api.Errno) {
	c.t.Helper()
	if e != wantE || !got.is(want) {
		c.t.Fatalf("step %d: %s: %v, %v, want %v, %v", c.step, what, got, e, want, wantE)
	}
	c.note(what, got, e)
	var lists [][]byte
	for _, op := range got.ops {
		lists = append(lists, op.Data[:cap(op.Data)])
	}
	for _, r := range got.replies {
		lists = append(lists, r.Data[:cap(r.Data)])
	}
	c.apart(lists)
	for _, list := range lists {
		c.kept = append(c.kept, keptList{now: list, then: bytes.Clone(list)})
	}
	c.kept = c.kept[max(0, len(c.kept)-30):]
	for _, k := range c.kept {
		if !bytes.Equal(k.now, k.then) {
			c.t.Fatalf("step %d: P2101: %s changes what an earlier call gave", c.step, what)
		}
	}
	clobberOps(got.ops)
	clobberReplies(got.replies)
	c.look()
}

// apart writes over lists, and sees that none has another's bytes then.
func (c *pair) apart(lists [][]byte) {
	c.t.Helper()
	for i, list := range lists {
		for k := range list {
			list[k] = byte(i + 1)
		}
	}
	for i, list := range lists {
		if bytes.Count(list, []byte{byte(i + 1)}) != len(list) {
			c.t.Fatalf("step %d: P2101: two lists of one answer share memory", c.step)
		}
	}
}

func (c *pair) look() {
	c.t.Helper()
	if open, underWay := c.q.Pending(); open != len(c.p.open) || underWay != len(c.p.under) {
		c.t.Fatalf("step %d: P2107: Pending: %d, %d, want %d, %d", c.step, open, underWay, len(c.p.open), len(c.p.under))
	}
}

// note remembers what was met, for the test to see that nothing was left out.
func (c *pair) note(what string, got gives, e api.Errno) {
	c.met[what+" "+e.Error()]++
	for _, op := range got.ops {
		c.met["operation "+api.Errno(op.Kind).Error()]++
	}
	for _, r := range got.replies {
		if r.Err != api.OK {
			c.met["failed"]++
		}
	}
	if len(c.p.under) == c.p.depth {
		c.met["depth"]++
	}
}

func clobber(list []byte) {
	for i := range list {
		list[i] ^= 0xA5
	}
}

func clobberInts(list []int) {
	list = list[:cap(list)]
	for i := range list {
		list[i] = -77
	}
}

func clobberOps(list []api.Op) {
	list = list[:cap(list)]
	for i := range list {
		list[i] = api.Op{Id: -1, Kind: 9, Block: 9}
	}
}

func clobberReplies(list []api.Reply) {
	list = list[:cap(list)]
	for i := range list {
		list[i] = api.Reply{Id: -1, Err: 9}
	}
}

// TestRowsAgainstModel: P2101 to P2107, by two queues that take turns.
func TestRowsAgainstModel(t *testing.T) {
	met := map[string]int{}
	for n := range *storyCount {
		d := dice(*storySeed + n)
		pairs := []*pair{newPair(t, &d, met), newPair(t, &d, met)}
		eager := 1 + d.below(9)
		for step := range 120 {
			c := pairs[d.below(2)]
			c.step = step
			switch {
			case d.below(150) == 0:
				c.lose()
			case d.below(10) < eager:
				c.request(c.rolled())
			default:
				c.answer()
			}
		}
	}
	for _, what := range []string{
		"Request errno 0", "Request errno 1", "Request errno 2", "Request errno 3", "Request errno 102",
		"Answered errno 0", "Answered errno 3", "Answered errno 5",
		"operation errno 1", "operation errno 2", "operation errno 3", "operation errno 4", "failed", "depth",
	} {
		if met[what] == 0 {
			t.Errorf("the stories never met: %s", what)
		}
	}
}

// TestRowsFull: many requests are open, up to the limit and at it.
func TestRowsFull(t *testing.T) {
	met := map[string]int{}
	for n := range 1 + *storyCount/100 {
		d := dice(*storySeed + n)
		c := newPair(t, &d, met)
		for step := range 500 {
			c.step = step
			if d.below(40) > 0 {
				c.request(c.rolled())
			} else {
				c.answer()
			}
		}
		for len(c.p.under) > 0 {
			c.answer()
		}
		if len(c.p.open) > 0 {
			t.Fatal("P2110: requests without a reply")
		}
	}
	if met["Request errno 4"] == 0 {
		t.Error("the stories never met ErrFull")
	}
}
