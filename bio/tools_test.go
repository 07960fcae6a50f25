package bio

import (
	"bytes"
	"slices"
	"testing"

	"replica/api"
)

// dice: numbers that look like chance and are the same each time.
type dice uint64

func (d *dice) below(n int) int {
	*d = *d*6364136223846793005 + 1442695040888963407
	return int(uint64(*d) >> 33 % uint64(n))
}

func (d *dice) one(list ...int) int { return list[d.below(len(list))] }

// some gives bytes of which hardly two lists are alike.
func (d *dice) some(length int) []byte {
	list := make([]byte, length)
	for i := range list {
		list[i] = byte(d.below(256))
	}
	return list
}

// within rolls a range of a device: at its blocks' borders, anywhere, or all of it.
func (d *dice) within(blocks, size int) (offset, length int) {
	total := blocks * size
	if d.below(3) == 0 {
		offset = d.below(total)
		return offset, 1 + d.below(min(total-offset, api.MaxRequest))
	}
	near := func() int { return min(max(size*d.below(blocks+1)+d.one(0, 0, 0, -1, 1), 0), total) }
	from, to := near(), near()
	if from == to {
		return d.below(total), 1
	}
	from, to = min(from, to), max(from, to)
	return from, min(to-from, api.MaxRequest)
}

// request rolls one that fits the device.
func (d *dice) request(id, blocks, size int) api.Request {
	r := api.Request{Id: id, Kind: d.one(api.ReqRead, api.ReqRead, api.ReqWrite, api.ReqWrite, api.ReqWrite, api.ReqDiscard, api.ReqDiscard, api.ReqSync)}
	if r.Kind != api.ReqSync {
		r.Offset, r.Length = d.within(blocks, size)
	}
	if r.Kind == api.ReqWrite {
		r.Data = d.some(r.Length)
	}
	return r
}

// run gives so many bytes, each one greater than the one ahead of it.
func run(length int, first byte) []byte {
	list := make([]byte, length)
	for i := range list {
		list[i] = first + byte(i)
	}
	return list
}

func join(parts ...[]byte) []byte { return bytes.Join(parts, nil) }

// queue: one whose answers are held against what a test writes down.
type queue struct {
	*Queue
	t testing.TB
}

func made(t testing.TB, blocks, size, depth int) queue {
	t.Helper()
	q, e := New(blocks, size, depth)
	if q == nil || e != api.OK {
		t.Fatalf("P2102: New(%d, %d, %d): %v", blocks, size, depth, e)
	}
	return queue{q, t}
}

// gives: what a call is to give out.
type gives struct {
	ops     []api.Op
	replies []api.Reply
}

func hands(ops ...api.Op) gives { return gives{ops: ops} }

func replies(list ...api.Reply) gives { return gives{replies: list} }

func (g gives) and(ops ...api.Op) gives { return gives{ops: ops, replies: g.replies} }

func (q queue) asked(r api.Request, want gives) {
	q.t.Helper()
	ops, list, e := q.Request(r)
	q.compare("Request", gives{ops, list}, e, want)
}

func (q queue) answered(a api.Answer, want gives) {
	q.t.Helper()
	ops, list, e := q.Answered(a)
	q.compare("Answered", gives{ops, list}, e, want)
}

func (q queue) compare(what string, got gives, e api.Errno, want gives) {
	q.t.Helper()
	if e != api.OK || !got.is(want) {
		q.t.Fatalf("%s gives %v, %v, want %v", what, got, e, want)
	}
}

func (g gives) is(other gives) bool {
	return slices.EqualFunc(g.ops, other.ops, func(a, b api.Op) bool {
		return a.Id == b.Id && a.Kind == b.Kind && a.Block == b.Block && bytes.Equal(a.Data, b.Data)
	}) && slices.EqualFunc(g.replies, other.replies, func(a, b api.Reply) bool {
		return a.Id == b.Id && a.Err == b.Err && bytes.Equal(a.Data, b.Data)
	})
}

// refusesRequest: an error alone, and nothing has changed that Pending tells.
func (q queue) refusesRequest(r api.Request, want api.Errno) {
	q.t.Helper()
	open, underWay := q.Pending()
	ops, list, e := q.Request(r)
	q.refused("P2103: Request", len(ops)+len(list), e, want, open, underWay)
}

func (q queue) refusesAnswer(a api.Answer, want api.Errno) {
	q.t.Helper()
	open, underWay := q.Pending()
	ops, list, e := q.Answered(a)
	q.refused("P2104: Answered", len(ops)+len(list), e, want, open, underWay)
}

func (q queue) refused(what string, given int, e, want api.Errno, open, underWay int) {
	q.t.Helper()
	if e != want || given > 0 {
		q.t.Errorf("%s: %v with %d answers, want %v", what, e, given, want)
	}
	q.pending(open, underWay)
}

func (q queue) pending(open, underWay int) {
	q.t.Helper()
	if n, m := q.Pending(); n != open || m != underWay {
		q.t.Errorf("P2107: Pending: %d, %d, want %d, %d", n, m, open, underWay)
	}
}

func (q queue) loses(ids ...int) {
	q.t.Helper()
	if list := q.Lost(); !slices.Equal(list, ids) {
		q.t.Errorf("P2106: Lost: %v, want %v", list, ids)
	}
	q.pending(0, 0)
}

func read(id, block int) api.Op { return api.Op{Id: id, Kind: api.OpRead, Block: block} }

func write(id, block int, data ...[]byte) api.Op {
	return api.Op{Id: id, Kind: api.OpWrite, Block: block, Data: join(data...)}
}

func zero(id, block int) api.Op { return api.Op{Id: id, Kind: api.OpZero, Block: block} }

func flush(id int) api.Op { return api.Op{Id: id, Kind: api.OpFlush} }

func ok(id int) api.Answer { return api.Answer{Id: id} }
