package repl

import (
	"bytes"
	"math"
	"testing"

	"replica/api"
	"replica/disk"
	"replica/locks"
	"replica/store"
)

// half: what one of two engines stands on.
type half struct {
	d *disk.Disk
	s *store.Store
	l *locks.Table
}

// pair: an engine and the model, each on a half of its own, that are given the same calls.
type pair struct {
	t     *testing.T
	dice  dice
	x     shape
	own   half
	model half
	e     *Engine
	p     *plain
	step  int
	fills int
	told  []int // owners whom a table has let in, and of whom the engines have not heard
	seen  map[string]int
}

func newPair(t *testing.T, seed int, x shape) *pair {
	t.Helper()
	c := &pair{t: t, dice: dice(seed), x: x, seen: map[string]int{}}
	c.own.d, c.own.s, c.own.l = ground(t, x)
	c.model.d, c.model.s, c.model.l = ground(t, x)
	c.build()
	return c
}

func (c *pair) build() {
	c.t.Helper()
	config := c.x.config()
	e, err := New(c.own.s, c.own.l, config)
	if err != api.OK {
		c.t.Fatalf("P1401: %v", err)
	}
	c.e, c.p, c.told = e, newPlain(c.model.s, c.model.l, config, c.seen), nil
}

func (c *pair) bad(what string, got, want string) {
	c.t.Helper()
	c.t.Fatalf("step %d of %+v: %s: %s; want %s", c.step, c.x, what, got, want)
}

// both holds what the two gave out against each other, and then writes over it.
func (c *pair) both(what string, o api.Out, e api.Errno, want api.Out, wantE api.Errno) {
	c.t.Helper()
	c.step++
	c.seen[what+": "+wantE.Error()]++
	if e != wantE || !sameOut(o, want) {
		c.bad(what, e.Error()+" "+tell(o), wantE.Error()+" "+tell(want))
	}
	scribble(o)
}

func (c *pair) alike() {
	c.t.Helper()
	now := looksOf(c.e, c.own.s, c.own.d, c.own.l)
	want := looksOf(c.p, c.model.s, c.model.d, c.model.l)
	if what := now.differs(want, !c.p.dead); what != "" {
		c.bad(what+" is not alike", "", "")
	}
}

// roomy gives bytes with spare room behind them, and a copy of all of it.
func roomy(data []byte) ([]byte, []byte) {
	all := append(bytes.Clone(data), 1, 2, 3, 4, 5)
	return all[:len(data)], bytes.Clone(all)
}

func (c *pair) unchanged(data, all []byte) {
	c.t.Helper()
	if !bytes.Equal(data[:len(all)], all) {
		c.bad("P1412: what was handed in has changed", "", "")
	}
	spoilBytes(data)
}

func (c *pair) submit(op api.Op) {
	c.t.Helper()
	want, wantE := c.p.Submit(op)
	handed, all := roomy(op.Data)
	op.Data = handed
	o, e := c.e.Submit(op)
	c.unchanged(handed, all)
	c.both("Submit", o, e, want, wantE)
}

func (c *pair) receive(p api.Packet) {
	c.t.Helper()
	want, wantE := c.p.Receive(p)
	handed, all := roomy(p.Data)
	p.Data = handed
	o, e := c.e.Receive(p)
	c.unchanged(handed, all)
	c.both("Receive", o, e, want, wantE)
}

func (c *pair) granted(owner int) {
	c.t.Helper()
	c.both("Granted", c.e.Granted(owner), 0, c.p.Granted(owner), 0)
}

func (c *pair) connect() {
	c.t.Helper()
	c.both("Connect", api.Out{}, c.e.Connect(), api.Out{}, c.p.Connect())
}

func (c *pair) disconnect() {
	c.t.Helper()
	c.both("Disconnect", c.e.Disconnect(), 0, c.p.Disconnect(), 0)
}

func (c *pair) hold(on bool) {
	c.t.Helper()
	c.both("Hold", c.e.Hold(on), 0, c.p.Hold(on), 0)
}

// halves does the same to both.
func (c *pair) halves(act func(h *half)) {
	act(&c.own)
	act(&c.model)
}

func (c *pair) bytes() []byte {
	c.fills++
	return bytes.Repeat([]byte{byte(c.fills), byte(c.fills >> 8)}, c.x.size/2)
}

func (c *pair) one(list ...int) int { return list[c.dice.below(len(list))] }

func (c *pair) op() api.Op {
	op := api.Op{Id: 1 + c.dice.below(2*c.x.queue), Kind: 1 + c.dice.below(4), Block: c.dice.below(c.x.blocks)}
	if op.Kind == api.OpFlush {
		op.Block = 0
	}
	if op.Kind == api.OpWrite {
		op.Data = c.bytes()
	}
	switch c.dice.below(60) {
	case 0:
		op.Id = c.one(math.MinInt, -1, 0, 1<<31-1, 1<<31, 1<<32+1, math.MaxInt)
	case 1:
		op.Kind = c.one(math.MinInt, -1, 0, 5, math.MaxInt)
	case 2:
		op.Block = c.one(math.MinInt, -1, c.x.blocks, c.x.blocks+1, 1<<32, math.MaxInt)
	case 3:
		op.Data = make([]byte, c.one(0, 1, c.x.size-1, c.x.size, c.x.size+1))
	}
	return op
}

// packet: one that fits where there is such a one, but for a part of them.
func (c *pair) packet() api.Packet {
	p := c.fitting()
	far := []uint32{0, 1, 2, 7, 1 << 31, math.MaxUint32}
	switch c.dice.below(40) {
	case 0:
		p.Cmd = c.one(math.MinInt, -1, 0, 1+c.dice.below(25), 26, 1<<32+p.Cmd, math.MaxInt)
	case 1:
		p.Id = far[c.dice.below(len(far))]
	case 2:
		p.Block = far[c.dice.below(len(far))]
	case 3:
		p.Block = uint32(c.x.blocks + c.dice.below(3) - 1)
	case 4:
		p.Epoch += uint32(c.dice.below(3) - 1)
	case 5:
		p.Count += uint32(c.dice.below(3) - 1)
	case 6:
		p.Flags = far[c.dice.below(len(far))]
	case 7:
		p.Data = make([]byte, c.one(0, 1, c.x.size-1, c.x.size, c.x.size+1))
	}
	return p
}

func (c *pair) fitting() api.Packet {
	block := uint32(c.dice.below(c.x.blocks))
	var of plainOp
	if len(c.p.ops) > 0 {
		of = c.p.ops[c.dice.below(len(c.p.ops))]
	}
	switch c.dice.below(12) {
	case 0, 1, 2, 3:
		own := c.one(api.CmdRecvAck, api.CmdWriteAck, api.CmdRecvAck+max(0, c.x.protocol-api.ProtoB))
		return word(own, uint32(of.Id), uint32(of.Block))
	case 4, 5, 6:
		if len(c.p.log) == 0 {
			return barrier(api.CmdBarrierAck, 1, 1)
		}
		oldest := c.p.log[0].Epoch
		n := 0
		for _, w := range c.p.log {
			if w.Epoch == oldest {
				n++
			}
		}
		return barrier(api.CmdBarrierAck, uint32(oldest), uint32(n))
	case 7, 8:
		for _, o := range c.p.ops {
			if o.place == 'A' {
				of = o
			}
		}
		return replyOf(uint32(of.Id), uint32(of.Block), uint32(c.one(0, 0, 21)), c.bytes())
	case 9:
		return api.Packet{Cmd: c.one(api.CmdData, api.CmdZero), Id: uint32(c.dice.below(9)), Block: block, Epoch: uint32(c.p.epoch), Data: c.bytes()}
	case 10:
		return barrier(api.CmdBarrier, uint32(c.p.epoch), uint32(c.p.taken))
	}
	return word(api.CmdReadRequest, uint32(c.dice.below(9)), block)
}

// another: what others do to the tables and the stores.
func (c *pair) another() {
	c.step++
	extent, block := c.dice.below((c.x.blocks+3)/4), c.dice.below(c.x.blocks)
	owner := c.one(-1, -2, -1000, 1000, 1+c.dice.below(2*c.x.queue))
	if len(c.p.ops) > 0 && c.dice.below(4) == 0 {
		// An owner with the number of an operation, at another extent.
		owner = c.p.ops[c.dice.below(len(c.p.ops))].Id
	}
	switch c.dice.below(19) {
	case 0, 1, 2, 3:
		mode := c.one(api.Exclusive, api.Exclusive, api.Shared)
		c.halves(func(h *half) { h.l.Acquire(extent, mode, owner) })
	case 4, 5, 6, 7, 8:
		// Most give back what others have, so that the operations come in.
		if held, _, _ := c.model.l.Holders(extent); len(held) > 0 && c.p.at(held[0]) < 0 {
			owner = held[0]
		}
		var granted []int
		c.halves(func(h *half) { granted, _ = h.l.Release(extent, owner) })
		c.told = append(c.told, granted...)
	case 9:
		c.halves(func(h *half) { h.s.Begin(block) })
	case 10, 11:
		c.halves(func(h *half) { h.s.End(block) })
	case 12:
		c.halves(func(h *half) { h.s.Mark(block) })
	case 13:
		c.halves(func(h *half) { h.s.Clean(block) })
	case 14:
		c.halves(func(h *half) { h.s.Checkpoint() })
	case 15, 16, 17, 18:
		c.halves(func(h *half) { h.d.Spoil(block) })
	}
}

// tell: the engines hear of an owner who has come in; now and then of any other.
func (c *pair) tell() {
	c.t.Helper()
	if len(c.told) == 0 || c.dice.below(30) == 0 {
		c.granted(c.one(math.MinInt, -1, 0, 1000, 1<<32+1, math.MaxInt, 1+c.dice.below(2*c.x.queue)))
		return
	}
	owner := c.told[0]
	c.told = c.told[1:]
	c.granted(owner)
}

// restart: the power goes, and both begin anew on what is left.
func (c *pair) restart() {
	c.t.Helper()
	c.step++
	kept := picks(&c.dice)
	c.halves(func(h *half) {
		h.d.Crash(kept)
		var e api.Errno
		if h.s, _, e = store.Open(h.d); e != api.OK {
			c.t.Fatalf("Open: %v", e)
		}
		h.l, _ = locks.New((c.x.blocks+3)/4, c.x.waiters)
	})
	c.build()
}

// answered: the peer's word, unless the peer is slow for a while: then what waits for it grows.
func (c *pair) answered() {
	c.t.Helper()
	p := c.packet()
	if c.step%1000 < 300 && (p.Cmd == api.CmdBarrierAck || p.Cmd == api.CmdReadReply) {
		c.submit(c.op())
		return
	}
	c.receive(p)
}

// chance makes one call, or does what others do.
func (c *pair) chance(cuts bool) {
	c.t.Helper()
	switch n := c.dice.below(1000); {
	case n < 340:
		c.submit(c.op())
	case n < 720:
		c.answered()
	case n < 860:
		c.another()
	case n < 940:
		c.tell()
	case n < 965:
		c.connect()
	case n < 970:
		c.disconnect()
	case n < 992:
		c.hold(c.dice.below(3) == 0)
	case cuts && n < 996:
		steps := c.dice.below(12)
		c.halves(func(h *half) { h.d.Fuse(steps) })
	case cuts && n < 997:
		c.halves(func(h *half) { h.d.Fuse(0); h.s.Flush() })
	}
	c.alike()
	if c.p.dead && c.dice.below(12) == 0 || cuts && c.dice.below(3000) == 0 {
		c.restart()
	}
}

var shapes = []shape{
	{8, 128, 2, 100, api.ProtoC, 2, 4},
	{8, 128, 1, 2, api.ProtoB, 3, 9},
	{8, 128, 1, 20, api.ProtoA, 2, 6},
	{1, 128, 1, 0, api.ProtoC, 1, 1},
	{9, 256, 1, 5, api.ProtoC, 1, 12},
	{23, 128, 3, 30, api.ProtoB, 4, 30},
	{40, 128, 4, 30, api.ProtoA, 5, 20},
	{5, 1024, 2, 9, api.ProtoC, 64, 256},
	{12, 128, 3, 20, api.ProtoC, 1, 9},
	{8, 128, 2, 20, api.ProtoA, 2, 9},
}

// P1401 to P1408, P1412: long rows of calls, whatever others do in between; the power stays.
func TestRows(t *testing.T) {
	all := map[string]int{}
	for i, x := range shapes {
		c := newPair(t, i+1, x)
		for range 25000 {
			c.chance(false)
		}
		for what, n := range c.seen {
			all[what] += n
		}
	}
	wantSeen(t, all, "Submit: errno 0", "Submit: errno 1", "Submit: errno 2", "Submit: errno 3", "Submit: errno 4", "Submit: errno 91", "Submit: errno 102",
		"Receive: errno 0", "Receive: errno 141", "Receive: errno 142", "Connect: errno 0", "Connect: errno 5",
		"the table refuses", "granted", "a lost write", "a lost read", "a lost flush", "let in by an answer", "another is told",
		"a flush closes the epoch", "a flush of no write", "a flush with a peer, at once", "stuck", "starved", "the log is full", "the epoch is full",
		"the peer is asked", "the peer is not asked", "a barrier", "a copy", "a read request: errno 0", "a read request: errno 21",
		"an ack", "a reply", "a reply without data", "an epoch without all its acks", "a settled flush")
}

// P1401 to P1408, P1412: rows in which the power goes, at any writing step of the engine's calls and of others'.
func TestRowsPower(t *testing.T) {
	all := map[string]int{}
	for i, x := range shapes {
		c := newPair(t, i+101, x)
		for range 20000 {
			c.chance(true)
		}
		for what, n := range c.seen {
			all[what] += n
		}
	}
	wantSeen(t, all, "Submit: errno 22", "Receive: errno 22", "Connect: errno 22", "a lost write", "a settled flush", "a copy", "stuck")
}

func wantSeen(t *testing.T, all map[string]int, wanted ...string) {
	t.Helper()
	for _, what := range wanted {
		if all[what] < 10 {
			t.Errorf("the rows have not come by this often enough: %s: %d", what, all[what])
		}
	}
}

// P1402 to P1408: every row of a few calls, under each protocol.
func TestEveryRow(t *testing.T) {
	calls := []func(c *pair){
		func(c *pair) { c.submit(api.Op{Id: 1, Kind: api.OpWrite, Block: 0, Data: fill('a')}) },
		func(c *pair) { c.submit(api.Op{Id: 2, Kind: api.OpZero, Block: 4}) },
		func(c *pair) { c.submit(read(3, 0)) },
		func(c *pair) { c.submit(flush(4)) },
		func(c *pair) { c.receive(word(api.CmdRecvAck+max(0, c.x.protocol-api.ProtoB), 1, 0)) },
		func(c *pair) { c.receive(barrier(api.CmdBarrierAck, 1, 1)) },
		func(c *pair) { c.hold(!c.p.held) },
		(*pair).disconnect,
		func(c *pair) { c.halves(func(h *half) { h.l.Acquire(0, api.Exclusive, -1) }) },
		func(c *pair) {
			var granted []int
			c.halves(func(h *half) { granted, _ = h.l.Release(0, -1) })
			for _, owner := range granted {
				c.granted(owner)
			}
		},
	}
	const length = 4
	rows := 1
	for range length {
		rows *= len(calls)
	}
	for protocol := api.ProtoA; protocol <= api.ProtoC; protocol++ {
		for row := range rows {
			c := newPair(t, row, shape{8, 128, 1, 3, protocol, 2, 3})
			c.connect()
			for range length {
				calls[row%len(calls)](c)
				row /= len(calls)
			}
			c.alike()
		}
	}
}

// P1, P1412: noise of every kind, to an engine that is joined and one that is not.
func TestNoise(t *testing.T) {
	d := dice(5)
	edges := []int{math.MinInt, math.MinInt32, -1, 0, 1, 2, 3, 4, 5, 8, 1<<31 - 1, 1 << 31, 1 << 32, 1<<32 + 1, math.MaxInt}
	any := func() int { return edges[d.below(len(edges))] }
	for range 60 {
		v := newDesk(t, shape{8, 128, 1, 3, 1 + d.below(3), 1 + d.below(3), 1 + d.below(5)})
		for range 300 {
			switch d.below(8) {
			case 0, 1, 2:
				op := api.Op{Id: any(), Kind: any(), Block: any(), Data: make([]byte, []int{0, 1, 128, 4096}[d.below(4)])}
				v.e.Submit(op)
			case 3, 4, 5:
				v.e.Receive(api.Packet{Cmd: d.below(28) - 1, Id: uint32(any()), Block: uint32(any()), Epoch: uint32(any()), Count: uint32(any()), Flags: uint32(any()), Data: make([]byte, []int{0, 1, 128, 4096}[d.below(4)])})
			case 6:
				v.e.Granted(any())
			case 7:
				v.e.Hold(d.below(2) == 0)
				if d.below(3) > 0 {
					v.e.Connect()
				} else {
					v.e.Disconnect()
				}
			}
		}
		v.e.Hold(false)
		v.e.Disconnect()
		if v.e.Pending() != 0 {
			t.Fatalf("P1411: %d operations are left", v.e.Pending())
		}
	}
}
