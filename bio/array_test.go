package bio

import (
	"bytes"
	"slices"
	"testing"

	"replica/api"
)

// moments at which a device does an operation.
const (
	atOnce = iota
	atAnswer
	between
)

// device: one array of blocks, that answers in any order.
type device struct {
	size  int
	bytes []byte
	under []*given
}

// given: an operation that was handed out.
type given struct {
	api.Op
	moment int
	done   bool
	data   []byte // what was read
}

func (d *device) block(block int) []byte { return d.bytes[block*d.size : (block+1)*d.size] }

func (d *device) do(g *given) {
	if g.done {
		return
	}
	g.done = true
	switch g.Kind {
	case api.OpRead:
		g.data = bytes.Clone(d.block(g.Block))
	case api.OpWrite:
		copy(d.block(g.Block), g.Data)
	case api.OpZero:
		clear(d.block(g.Block))
	}
}

// wanted: a request that was taken.
type wanted struct {
	api.Request
	reply  []byte // that it is to have
	ops    int
	failed api.Errno
}

func (w *wanted) touches(block, size int) bool {
	return w.Kind != api.ReqSync && w.Offset < (block+1)*size && block*size < w.Offset+w.Length
}

func (w *wanted) meets(other *wanted, size int) bool {
	if w.Kind == api.ReqSync || other.Kind == api.ReqSync {
		return false
	}
	for block := w.Offset / size; block*size < w.Offset+w.Length; block++ {
		if other.touches(block, size) {
			return true
		}
	}
	return false
}

// most is how many operations a request takes.
func (w *wanted) most(size int) int {
	if w.Kind == api.ReqSync {
		return 1
	}
	count := 0
	for block := w.Offset / size; block*size < w.Offset+w.Length; block++ {
		count++
		if w.Kind != api.ReqRead && (block*size < w.Offset || (block+1)*size > w.Offset+w.Length) {
			count++
		}
	}
	return count
}

// story: a queue over a device, and one byte array to which all requests were done in their order.
type story struct {
	t      *testing.T
	dice   dice
	q      *Queue
	dev    device
	blocks int
	depth  int
	moment int // at which the device does its operations; beyond between: at any
	errors int // one of how many answers is an error; 0: none
	array  []byte
	open   []*wanted
	last   int
	failed int
}

func newStory(t *testing.T, seed int, errors bool) *story {
	y := &story{t: t, dice: dice(seed)}
	y.blocks, y.depth = 1+y.dice.below(7), 1+y.dice.below(6)
	if y.dice.below(4) == 0 {
		y.blocks, y.depth = y.dice.one(20, 64, 100), y.dice.one(1, 16, 256)
	}
	y.moment = y.dice.below(4)
	if errors {
		y.errors = y.dice.one(3, 10, 30)
	}
	size := y.dice.one(128, 256, 512, 1024)
	y.q = made(t, y.blocks, size, y.depth).Queue
	y.dev = device{size: size, bytes: y.dice.some(y.blocks * size)}
	y.array = bytes.Clone(y.dev.bytes)
	return y
}

func (y *story) request(id int) {
	y.t.Helper()
	w := &wanted{Request: y.dice.request(id, y.blocks, y.dev.size)}
	if y.errors == 0 {
		w.reply = y.apply(w.Request, w.Offset, w.Offset+w.Length)
	}
	y.open = append(y.open, w)
	y.given(y.q.Request(w.Request))
}

// apply does a request to the bytes of the one array up to there, and tells what it reads.
func (y *story) apply(r api.Request, from, to int) []byte {
	own := y.array[from:to]
	switch r.Kind {
	case api.ReqRead:
		return bytes.Clone(own)
	case api.ReqWrite:
		copy(own, r.Data[from-r.Offset:])
	case api.ReqDiscard:
		clear(own)
	}
	return nil
}

// given takes what a call gave out.
func (y *story) given(ops []api.Op, list []api.Reply, e api.Errno) {
	y.t.Helper()
	if e != api.OK {
		y.t.Fatalf("refused: %v", e)
	}
	for _, r := range list {
		y.replied(r)
	}
	for _, op := range ops {
		y.handed(op)
	}
	if len(y.dev.under) > y.depth {
		y.t.Fatalf("P2109: %d operations under way, at most %d may be", len(y.dev.under), y.depth)
	}
}

func (y *story) handed(op api.Op) {
	y.t.Helper()
	y.last++
	if op.Id != y.last {
		y.t.Fatalf("operation %d, want %d", op.Id, y.last)
	}
	for _, g := range y.dev.under {
		if g.Kind != api.OpFlush && op.Kind != api.OpFlush && g.Block == op.Block {
			y.t.Fatalf("P2109: operations %d and %d of block %d", g.Id, op.Id, op.Block)
		}
	}
	w := y.owner(op)
	w.ops++
	if w.failed != api.OK || w.ops > w.most(y.dev.size) {
		y.t.Fatalf("P2105, P2110: request %d (%v) hands out a further operation", w.Id, w.failed)
	}
	g := &given{Op: op, moment: min(y.moment, between)}
	if y.moment > between {
		g.moment = y.dice.below(3)
	}
	if g.moment == atOnce && y.errors == 0 {
		y.dev.do(g)
	}
	y.dev.under = append(y.dev.under, g)
}

// owner tells of which request an operation is: no two that are up touch one block.
func (y *story) owner(op api.Op) *wanted {
	y.t.Helper()
	for _, w := range y.open {
		if op.Kind != api.OpFlush && w.touches(op.Block, y.dev.size) {
			return w
		}
	}
	if w := y.open[0]; op.Kind != api.OpFlush || w.Kind != api.ReqSync {
		y.t.Fatalf("P2109: operation %+v is nobody's, or a flush comes too early", op)
	}
	return y.open[0]
}

func (y *story) replied(r api.Reply) {
	y.t.Helper()
	place := slices.IndexFunc(y.open, func(w *wanted) bool { return w.Id == r.Id })
	if place < 0 {
		y.t.Fatalf("request %d is not open", r.Id)
	}
	w := y.open[place]
	for _, earlier := range y.open[:place] {
		if w.Kind == api.ReqSync || w.meets(earlier, y.dev.size) {
			y.t.Fatalf("P2109: request %d is replied to ahead of %d", r.Id, earlier.Id)
		}
	}
	if y.errors > 0 && w.Kind == api.ReqRead && w.failed == api.OK {
		w.reply = y.apply(w.Request, w.Offset, w.Offset+w.Length)
	}
	switch {
	case r.Err != w.failed || w.failed != api.OK && len(r.Data) > 0:
		y.t.Fatalf("P2104: the reply to %d: %v with %d bytes, want %v", r.Id, r.Err, len(r.Data), w.failed)
	case w.failed == api.OK && !bytes.Equal(r.Data, w.reply):
		y.t.Fatalf("P2108: request %d reads other bytes", r.Id)
	case w.failed == api.OK && w.ops != w.most(y.dev.size):
		y.t.Fatalf("P2110: request %d took %d operations, want %d", r.Id, w.ops, w.most(y.dev.size))
	}
	y.open = slices.Delete(y.open, place, place+1)
}

// goOn lets the device do or answer something.
func (y *story) goOn() {
	y.t.Helper()
	at := y.dice.below(len(y.dev.under))
	g := y.dev.under[at]
	if g.moment == between && !g.done && y.errors == 0 {
		y.dev.do(g)
		return
	}
	y.dev.under = slices.Delete(y.dev.under, at, at+1)
	w := y.owner(g.Op)
	if y.errors > 0 && y.dice.below(y.errors) == 0 {
		e := api.Errno(y.dice.one(int(api.ErrMedium), int(api.ErrPower), 3, -1))
		if w.failed == api.OK {
			w.failed = e
			y.failed++
		}
		y.given(y.q.Answered(api.Answer{Id: g.Id, Err: e, Data: y.dice.some(y.dice.below(200))}))
		return
	}
	y.dev.do(g)
	if y.errors > 0 && (g.Kind == api.OpWrite || g.Kind == api.OpZero) {
		y.apply(w.Request, max(w.Offset, g.Block*y.dev.size), min(w.Offset+w.Length, (g.Block+1)*y.dev.size))
	}
	y.given(y.q.Answered(api.Answer{Id: g.Id, Data: g.data}))
}

// play lets requests come and the device answer, and then the device alone.
func (y *story) play() {
	y.t.Helper()
	busy := 1 + y.dice.below(9)
	for id := 1; id <= 60; {
		if y.dice.below(10) < busy {
			y.request(id)
			id++
		} else if len(y.dev.under) > 0 {
			y.goOn()
		}
	}
	for len(y.dev.under) > 0 {
		y.goOn()
	}
	if open, underWay := y.q.Pending(); open+underWay+len(y.open) > 0 {
		y.t.Fatalf("P2110: %d requests without a reply", open)
	}
	if !bytes.Equal(y.dev.bytes, y.array) {
		y.t.Fatal("P2108: the device has other bytes than the array")
	}
}

// TestStoriesOfOneArray: P2108, P2109, P2110.
func TestStoriesOfOneArray(t *testing.T) {
	for n := range *storyCount {
		newStory(t, *storySeed+n, false).play()
	}
}

// TestStoriesOfErrors: P2105, P2109, P2110 over a device that refuses operations: what was answered OK is done, and nothing else.
func TestStoriesOfErrors(t *testing.T) {
	failed := 0
	for n := range *storyCount {
		y := newStory(t, *storySeed+n, true)
		y.play()
		failed += y.failed
	}
	if failed == 0 {
		t.Error("no request failed")
	}
}

// TestStoriesOfLosses: P2106: behind a loss the queue goes on over what the device has done up to then.
func TestStoriesOfLosses(t *testing.T) {
	for n := range *storyCount {
		y := newStory(t, *storySeed+n, false)
		for range 3 {
			y.play()
			y.loseSome()
		}
	}
}

// loseSome lets requests come, and the device lose its power with some of them done.
func (y *story) loseSome() {
	y.t.Helper()
	for id := range 10 {
		y.request(1000 + id)
		if len(y.dev.under) > 0 && y.dice.below(2) == 0 {
			y.goOn()
		}
	}
	var ids []int
	for _, w := range y.open {
		ids = append(ids, w.Id)
	}
	if got := y.q.Lost(); !slices.Equal(got, ids) {
		y.t.Fatalf("P2106: Lost: %v, want %v", got, ids)
	}
	for _, g := range y.dev.under {
		if ops, list, e := y.q.Answered(api.Answer{Id: g.Id, Data: make([]byte, y.dev.size)}); len(ops)+len(list) > 0 || e != api.ErrState {
			y.t.Fatalf("P2106: an answer of before: %v", e)
		}
	}
	y.open, y.dev.under = nil, nil
	y.array = bytes.Clone(y.dev.bytes)
}
