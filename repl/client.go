package repl

import (
	"bytes"
	"math"
	"slices"

	"replica/api"
	"replica/locks"
	"replica/tlog"
)

// place is where a pending operation stands; the letters are the document's.
type place int

const (
	atLock  place = iota // W: it waits for the lock of its extent
	atReady              // R: it has the lock, and is in the ready list
	atSent               // S: a write that was sent
	atAsked              // A: a read that the peer was asked for
	atTurn               // F: a flush whose turn has not come
	atEpoch              // E: a flush that waits until epochs are settled
)

// operation: one that has no answer yet.
type operation struct {
	id, kind, block int
	data            []byte // of a write that was not sent
	place           place
	epoch           int // of a flush at atEpoch: the last epoch that it waits for
}

// client: the side that takes operations.
type client struct {
	*base
	table   *locks.Table
	queue   int          // how many operations may be pending
	pending []*operation // as they were submitted
	ready   []*operation // as their locks came
	held    bool
	log     *tlog.Log
	logged  map[int]struct{} // the ids of the writes in the log, of which it can't be asked
	joined  bool             // the log's open epoch has a write
}

func extentOf(block int) int { return block / api.ExtentBlocks }

// admit takes an operation, or tells why it is refused.
func (c *client) admit(op api.Op) api.Errno {
	if e := c.refuses(op); e != api.OK {
		return e
	}
	o := &operation{id: op.Id, kind: op.Kind, block: op.Block, data: bytes.Clone(op.Data), place: atTurn}
	granted := false
	if op.Kind != api.OpFlush {
		var e api.Errno
		if granted, e = c.table.Acquire(extentOf(op.Block), api.Shared, op.Id); e != api.OK {
			return e
		}
		o.place = atLock
	}
	c.pending = append(c.pending, o)
	if granted {
		c.letIn(op.Id)
	}
	return api.OK
}

// refuses tells why an operation cannot be taken, whatever the lock table says; OK: it can.
func (c *client) refuses(op api.Op) api.Errno {
	flush := op.Kind == api.OpFlush
	switch {
	case c.dead:
		return api.ErrPower
	case op.Id < 1 || op.Id > math.MaxInt32 || op.Kind < api.OpRead || op.Kind > api.OpFlush || flush && op.Block != 0:
		return api.ErrArg
	case !flush && !c.has(op.Block):
		return api.ErrRange
	case len(op.Data) != c.dataSize(op.Kind):
		return api.ErrSize
	case c.knows(op.Id):
		return api.ErrTwice
	case len(c.pending) >= c.queue:
		return api.ErrFull
	}
	return api.OK
}

// dataSize is how many bytes an operation of that kind brings.
func (c *client) dataSize(kind int) int {
	if kind == api.OpWrite {
		return c.size
	}
	return 0
}

// knows tells whether the id is that of a pending operation or of a write in the log.
func (c *client) knows(id int) bool {
	_, in := c.logged[id]
	return in || c.find(id) != nil
}

// find gives the pending operation with that id; nil: there is none.
func (c *client) find(id int) *operation {
	for _, o := range c.pending {
		if o.id == id {
			return o
		}
	}
	return nil
}

// letIn puts the operation that waits for its lock, by its id, at the end of the ready list; false: there is none.
func (c *client) letIn(id int) bool {
	o := c.find(id)
	if o == nil || o.place != atLock {
		return false
	}
	o.place = atReady
	c.ready = append(c.ready, o)
	return true
}

// answer ends an operation.
func (c *client) answer(o *operation, e api.Errno, data []byte) {
	c.out.Answers = append(c.out.Answers, api.Answer{Id: o.id, Err: e, Data: data})
	at := slices.Index(c.pending, o)
	c.pending = slices.Delete(c.pending, at, at+1)
	if o.kind == api.OpRead && e == api.OK {
		c.tally.read++
	}
	if o.kind != api.OpFlush {
		c.release(o)
	}
}

// release gives an operation's lock back. Who comes in by that goes on here, if it is an operation of this engine; the others are told.
func (c *client) release(o *operation) {
	granted, _ := c.table.Release(extentOf(o.block), o.id)
	for _, owner := range granted {
		if !c.letIn(owner) {
			c.out.Granted = append(c.out.Granted, owner)
		}
	}
}

// goOn begins what is ready, in its order, and then gives flushes their turns.
func (c *client) goOn() {
	if c.held {
		return
	}
	for len(c.ready) > 0 && c.begin(c.ready[0]) {
		c.ready = slices.Delete(c.ready, 0, 1)
	}
	for o := c.nextFlush(); o != nil; o = c.nextFlush() {
		c.flushInTurn(o)
	}
}

// nextFlush is the flush ahead of which no operation is to be begun, and no flush to have its turn; nil: there is none.
func (c *client) nextFlush() *operation {
	for _, o := range c.pending {
		switch o.place {
		case atLock, atReady:
			return nil
		case atTurn:
			return o
		}
	}
	return nil
}

// flushInTurn: without a peer the log is empty, so that nothing is waited for.
func (c *client) flushInTurn(o *operation) {
	if c.joined {
		c.closeEpoch()
	} else {
		c.flush()
	}
	last := c.log.Open() - 1
	if c.log.Settled(last) {
		c.answer(o, api.OK, nil)
		return
	}
	o.place, o.epoch = atEpoch, last
}
