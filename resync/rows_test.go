package resync

import (
	"bytes"
	"crypto/sha256"
	"fmt"
	"math"
	"testing"

	"replica/api"
	"replica/disk"
	"replica/locks"
	"replica/store"
)

// half: what one of two engines stands on.
type half struct {
	d *disk.Disk
	s *store.Store
	l *locks.Table
}

// pair: an engine and the model, each on a half of its own, that are given the same calls.
type pair struct {
	t     *testing.T
	dice  dice
	x     shape
	own   half
	model half
	e     *Engine
	p     *plain
	step  int
	told  []int // owners whom a table has let in, and of whom the engines have not heard
	seen  map[string]int
}

func newPair(t *testing.T, seed int, x shape, marked bool) *pair {
	t.Helper()
	c := &pair{t: t, dice: dice(seed), x: x, seen: map[string]int{}}
	c.halves(func(h *half) { h.d = formatted(t, x, marked) })
	c.open()
	return c
}

// open: both begin on what the disks have.
func (c *pair) open() {
	c.t.Helper()
	c.halves(func(h *half) {
		var e api.Errno
		if h.s, _, e = store.Open(h.d); e != api.OK {
			c.t.Fatalf("Open: %v", e)
		}
		h.l, _ = locks.New((c.x.blocks+3)/4, c.x.waiters)
	})
	c.build()
}

func (c *pair) build() {
	c.t.Helper()
	e, err := New(c.own.s, c.own.l, c.x.rate, c.x.burst, c.x.ahead)
	if err != api.OK {
		c.t.Fatalf("P1601: %v", err)
	}
	c.e, c.p, c.told = e, newPlain(c.model.s, c.model.l, c.x, c.seen), nil
}

// halves does the same to both.
func (c *pair) halves(act func(h *half)) {
	act(&c.own)
	act(&c.model)
}

// both holds what the two gave out against each other, and then writes over it.
func (c *pair) both(what string, o api.Out, e api.Errno, want api.Out, wantE api.Errno) {
	c.t.Helper()
	c.step++
	c.seen[what+": "+wantE.Error()]++
	if e != wantE || !sameOut(o, want) {
		c.t.Fatalf("step %d of %+v: %s: %v %s; want %v %s", c.step, c.x, what, e, tell(o), wantE, tell(want))
	}
	c.told = append(c.told, want.Granted...)
	scribble(o)
}

func (c *pair) alike(what string) {
	c.t.Helper()
	now := looksOf(c.e.Progress(), c.x, c.own.d, c.own.s, c.own.l)
	want := looksOf(c.p.Progress(), c.x, c.model.d, c.model.s, c.model.l)
	if d := now.differs(want); d != "" {
		c.t.Fatalf("step %d of %+v: %s: not alike: %s", c.step, c.x, what, d)
	}
}

// scribble writes over all that a call gave out, the spare room included.
func scribble(o api.Out) {
	packets := o.Packets[:cap(o.Packets)]
	for i := range packets {
		data := packets[i].Data[:cap(packets[i].Data)]
		for k := range data {
			data[k] ^= 0xa5
		}
		packets[i] = api.Packet{Cmd: -7, Id: 7, Block: 7}
	}
	granted := o.Granted[:cap(o.Granted)]
	for i := range granted {
		granted[i] = -777
	}
}

// roomy gives bytes with spare room behind them, and a copy of all of it.
func roomy(data []byte) ([]byte, []byte) {
	all := append(bytes.Clone(data), 1, 2, 3, 4, 5)
	return all[:len(data)], bytes.Clone(all)
}

func (c *pair) start(mode int) {
	c.t.Helper()
	want, wantE := c.p.Start(mode)
	o, e := c.e.Start(mode)
	c.both("Start", o, e, want, wantE)
}

func (c *pair) receive(p api.Packet) {
	c.t.Helper()
	want, wantE := c.p.Receive(p)
	handed, all := roomy(p.Data)
	if len(p.Data) > 0 {
		p.Data = handed
	}
	o, e := c.e.Receive(p)
	if !bytes.Equal(handed[:len(all)], all) {
		c.t.Fatalf("step %d: P1624: what was handed in has changed", c.step)
	}
	for i := range all {
		handed[:len(all)][i] ^= 0x5a
	}
	c.both("Receive "+name(p.Cmd), o, e, want, wantE)
}

func (c *pair) granted(owner int) {
	c.t.Helper()
	c.both("Granted", c.e.Granted(owner), 0, c.p.Granted(owner), 0)
}

func (c *pair) tick() {
	c.t.Helper()
	c.both("Tick", c.e.Tick(), 0, c.p.Tick(), 0)
}

func (c *pair) stop() {
	c.t.Helper()
	c.both("Stop", c.e.Stop(), 0, c.p.Stop(), 0)
}

// bytes: few kinds of blocks, so that many are the same.
func (c *pair) bytes() []byte { return bytes.Repeat([]byte{byte(c.dice.below(3))}, c.x.size) }

// held: a request of the model's, rather one that does not wait; if it has none, one that is not there.
func (c *pair) held() plainRequest {
	if len(c.p.asked) == 0 {
		return plainRequest{id: 1}
	}
	for range 3 {
		if r := c.p.asked[c.dice.below(len(c.p.asked))]; !r.waits {
			return r
		}
	}
	return c.p.asked[0]
}

// fitting: a packet of the mode that fits, if there is such a one.
func (c *pair) fitting() api.Packet {
	r := c.held()
	block := uint32(c.dice.below(c.x.blocks))
	mode := c.p.mode
	if mode == 0 {
		mode = 1 + c.dice.below(4)
	}
	switch cmd := c.dice.one(taken[mode]...); cmd {
	case api.CmdSumRequest:
		p := api.Packet{Cmd: cmd, Id: 1 + uint32(c.dice.below(12)), Block: block, Sum: sha256.Sum256(c.bytes())}
		if c.dice.below(6) == 0 {
			p.Flags, p.Sum = 1, [32]byte{}
		}
		return p
	case api.CmdVerifyRequest:
		return api.Packet{Cmd: cmd, Id: 1 + uint32(c.dice.below(12)), Block: block, Sum: sha256.Sum256(c.bytes())}
	case api.CmdSyncData:
		return api.Packet{Cmd: cmd, Id: r.id, Block: r.block, Data: c.bytes()}
	case api.CmdNegAck:
		if c.dice.below(3) > 0 {
			return api.Packet{Cmd: api.CmdInSync, Id: r.id, Block: r.block}
		}
		return api.Packet{Cmd: cmd, Id: r.id, Block: r.block, Flags: uint32(c.dice.one(1, 4, 21, 255))}
	case api.CmdVerifyReply:
		return api.Packet{Cmd: cmd, Id: r.id, Block: r.block, Flags: uint32(c.dice.below(2))}
	case api.CmdSyncDone, api.CmdVerifyDone:
		if c.dice.below(20) > 0 { // it would end most runs at once, or be refused
			return c.fitting()
		}
		return api.Packet{Cmd: cmd, Count: uint32(c.dice.below(9))}
	default:
		return api.Packet{Cmd: cmd, Id: r.id, Block: r.block}
	}
}

// packet: one that fits where there is such a one, but for a part of them.
func (c *pair) packet() api.Packet {
	p := c.fitting()
	far := []uint32{0, 1, 2, 7, 1 << 31, math.MaxUint32}
	switch c.dice.below(60) {
	case 0:
		p.Cmd = c.dice.one(math.MinInt, -1, 0, 1+c.dice.below(25), 26, 1<<32+p.Cmd, math.MaxInt)
	case 1:
		p.Id = far[c.dice.below(len(far))]
	case 2:
		p.Block = far[c.dice.below(len(far))]
	case 3:
		p.Block = uint32(c.x.blocks + c.dice.below(3) - 1)
	case 4:
		p.Epoch = 1
	case 5:
		p.Count += uint32(c.dice.below(3) - 1)
	case 6:
		p.Flags = far[c.dice.below(len(far))]
	case 7:
		p.Data = make([]byte, c.dice.one(0, 1, c.x.size-1, c.x.size, c.x.size+1))
	case 8:
		p.Sum[c.dice.below(32)] ^= 1
	case 9:
		p.Gens.Current = 1
	case 10, 11:
		all := []int{api.CmdSumRequest, api.CmdInSync, api.CmdSyncData, api.CmdSyncAck, api.CmdSyncDone, api.CmdVerifyRequest, api.CmdVerifyReply, api.CmdVerifyDone, api.CmdNegAck}
		p.Cmd = c.dice.one(all...)
	}
	return p
}

// another: what others do to the tables, the stores and the disks.
func (c *pair) another() {
	c.step++
	extent, block := c.dice.below((c.x.blocks+3)/4), c.dice.below(c.x.blocks)
	owner := c.dice.one(-1000, 1000, 1+c.dice.below(9), 1+c.dice.below(9), -1-c.dice.below(12))
	switch c.dice.below(20) {
	case 0, 1, 2:
		mode := c.dice.one(api.Exclusive, api.Shared, api.Shared)
		c.halves(func(h *half) { h.l.Acquire(extent, mode, owner) })
	case 3, 4, 5, 6:
		// Most give back what others have, so that the requests come in.
		if held, _, _ := c.model.l.Holders(extent); len(held) > 0 && c.p.at(uint32(-held[0])) < 0 {
			owner = held[0]
		} else if c.dice.below(20) > 0 {
			return
		}
		var granted []int
		c.halves(func(h *half) { granted, _ = h.l.Release(extent, owner) })
		c.told = append(c.told, granted...)
	case 7, 8, 9:
		data := c.bytes()
		c.halves(func(h *half) { h.s.Apply(block, data) })
	case 10:
		c.halves(func(h *half) { h.s.Flush() })
	case 11, 12:
		c.halves(func(h *half) { h.s.Mark(block) })
	case 13, 14:
		c.halves(func(h *half) { h.s.Clean(block) })
	case 15:
		c.halves(func(h *half) { h.s.Checkpoint() })
	case 16:
		c.halves(func(h *half) { h.d.Spoil(block) })
	case 17, 18:
		data := c.bytes()
		c.halves(func(h *half) { h.s.Through(block, data) })
	case 19:
		if c.dice.below(10) == 0 {
			words := make([]uint64, (c.x.blocks+63)/64)
			for b := range c.x.blocks {
				words[b/64] |= 1 << (b % 64)
			}
			c.halves(func(h *half) { h.s.MarkWords(words) })
		}
	}
}

// tell: the engines hear of an owner who has come in; now and then of any other.
func (c *pair) tell() {
	c.t.Helper()
	if len(c.told) == 0 || c.dice.below(30) == 0 {
		c.granted(c.dice.one(math.MinInt, 1, 0, 1000, -1<<32-1, math.MaxInt, -1-c.dice.below(12)))
		return
	}
	owner := c.told[0]
	c.told = c.told[1:]
	c.granted(owner)
}

// restart: the power goes, and both begin anew on what is left.
func (c *pair) restart() {
	c.t.Helper()
	c.step++
	kept := c.dice.picks()
	c.halves(func(h *half) { h.d.Crash(kept) })
	c.open()
}

// chance makes one call, or does what others do.
func (c *pair) chance(cuts bool) {
	c.t.Helper()
	if cuts && c.p.cleans%16 == 15 && c.dice.below(8) == 0 {
		// The power goes where few calls write at all.
		steps := c.dice.below(3)
		c.halves(func(h *half) { h.d.Fuse(steps) })
	}
	switch n := c.dice.below(940); {
	case n < 520:
		c.receive(c.packet())
	case n < 700:
		c.another()
	case n < 780:
		c.tell()
	case n < 920:
		c.tick()
	case n < 923:
		c.start(1 + c.dice.below(4))
	case n < 926:
		c.start(c.dice.one(math.MinInt, -1, 0, 5, math.MaxInt))
	case n < 930:
		c.stop()
	case cuts && n < 936:
		steps := c.dice.below(8)
		c.halves(func(h *half) { h.d.Fuse(steps) })
	case cuts && n < 938:
		c.halves(func(h *half) { h.d.Fuse(0); h.s.Flush() })
	}
	if c.p.mode == 0 && c.dice.below(4) == 0 {
		c.start(1 + c.dice.below(4))
	}
	c.alike("a step")
	if !c.model.d.On() && c.dice.below(10) == 0 || cuts && c.dice.below(3000) == 0 {
		c.restart()
		c.alike("begun anew")
	}
}

// shapes: small and greater devices, narrow and wide engines.
func shapes() []shape {
	return []shape{
		usual,
		{blocks: 1, size: 128, waiters: 1, rate: 1, burst: 1, ahead: 1},
		{blocks: 5, size: 128, waiters: 0, rate: 1, burst: 2, ahead: 3},
		{blocks: 7, size: 256, waiters: 2, rate: 3, burst: 1, ahead: 2},
		{blocks: 12, size: 128, waiters: 3, rate: 2, burst: 9, ahead: 64},
		{blocks: 66, size: 128, waiters: 512, rate: 1024, burst: 1024, ahead: 7},
		{blocks: 40, size: 1024, waiters: 5, rate: 4, burst: 4, ahead: 20},
		{blocks: 20, size: 128, waiters: 9, rate: 7, burst: 5, ahead: 9, full: true},
	}
}

func TestRows(t *testing.T) {
	seen := map[string]int{}
	for i, x := range shapes() {
		for seed := range 6 {
			c := newPair(t, 100*i+seed, x, seed%3 > 0)
			for range 2500 {
				c.chance(seed%2 == 1)
			}
			for what, n := range c.seen {
				seen[what] += n
			}
		}
	}
	wantSeen(t, seen, 30, "the power", "the 16th clean", "cleaned unmarked", "a Flush", "unreadable", "SyncDone given", "VerifyDone given",
		"not as layer 7 writes it", "not of this mode", "no block of the store", "no such request", "it waits", "granted", "begun anew",
		"granted by a lock given back", "served: InSync", "served: SyncData", "the pace refuses", "ahead are in flight", "the walk is through",
		"the table refuses: errno 4", "the table refuses: errno 91", "left out", "a Checkpoint refused", "Start: errno 22",
		"the 16th clean of mode 1", "the 16th clean of mode 2")
	for mode := range taken {
		for _, cmd := range taken[mode] {
			wantSeen(t, seen, 30, "fits: "+name(cmd), "does not fit: "+name(cmd))
			if cmd != api.CmdVerifyDone && cmd != api.CmdNegAck {
				wantSeen(t, seen, 3, "Receive "+name(cmd)+": errno 22")
			}
		}
	}
}

func wantSeen(t *testing.T, seen map[string]int, least int, whats ...string) {
	t.Helper()
	for _, what := range whats {
		if seen[what] < least {
			t.Errorf("these rows come too seldom by %q: %d times", what, seen[what])
		}
	}
}

// TestEveryRow: every short row of some events, on a device of five blocks of which two are cached.
func TestEveryRow(t *testing.T) {
	x := shape{blocks: 5, size: 128, waiters: 1, rate: 1, burst: 2, ahead: 2}
	events := map[int][]func(c *pair){
		api.ModeSource: {
			func(c *pair) { c.receive(asks(1, 0, 0)) },
			func(c *pair) { c.receive(asks(2, 1, 0)) },
			func(c *pair) { c.receive(asksBlind(3, 4)) },
			func(c *pair) { c.receive(acks(1, 0)) },
			func(c *pair) { c.receive(acks(2, 1)) },
			func(c *pair) { c.receive(done(0)) },
			func(c *pair) { c.granted(-2) },
			func(c *pair) { c.stop() },
			func(c *pair) { c.halves(func(h *half) { h.l.Acquire(0, api.Shared, 7) }) },
			func(c *pair) { c.halves(func(h *half) { h.l.Release(0, 7) }) },
			func(c *pair) { c.halves(func(h *half) { h.d.Fuse(0) }) },
			func(c *pair) { c.start(api.ModeSource) },
		},
		api.ModeTarget: {
			func(c *pair) { c.tick() },
			func(c *pair) { c.receive(same(1, 1)) },
			func(c *pair) { c.receive(ships(2, 3, 5)) },
			func(c *pair) { c.receive(refuses(1, 1, 4)) },
			func(c *pair) { c.receive(refuses(2, 3, 4)) },
			func(c *pair) { c.receive(same(3, 1)) },
			func(c *pair) { c.stop() },
			func(c *pair) { c.halves(func(h *half) { h.s.Mark(0) }) },
			func(c *pair) { c.halves(func(h *half) { h.s.Clean(1); h.s.Clean(3) }) },
			func(c *pair) { c.halves(func(h *half) { h.d.Spoil(3) }) },
			func(c *pair) { c.halves(func(h *half) { h.d.Fuse(1) }) },
			func(c *pair) { c.start(api.ModeTarget) },
		},
		api.ModeVerifySource: {
			func(c *pair) { c.tick() },
			func(c *pair) { c.receive(replies(1, 0, 0)) },
			func(c *pair) { c.receive(replies(2, 1, 1)) },
			func(c *pair) { c.receive(replies(3, 2, 0)) },
			func(c *pair) { c.receive(replies(3, 3, 1)) },
			func(c *pair) { c.stop() },
			func(c *pair) { c.halves(func(h *half) { h.d.Spoil(2) }) },
			func(c *pair) { c.halves(func(h *half) { h.d.Fuse(0) }) },
			func(c *pair) { c.start(api.ModeVerifySource) },
			func(c *pair) { c.start(api.ModeVerifyTarget) },
			func(c *pair) { c.receive(looksFor(1, 2, 0)) },
			func(c *pair) { c.receive(verified(0)) },
		},
	}
	for mode, list := range events {
		t.Run(fmt.Sprint(mode), func(t *testing.T) {
			t.Parallel()
			row := make([]int, 4)
			for n := range pow(len(list), len(row)) {
				for i := range row {
					row[i] = n % len(list)
					n /= len(list)
				}
				everyRow(t, x, mode, list, row)
			}
		})
	}
}

func pow(a, n int) int {
	p := 1
	for range n {
		p *= a
	}
	return p
}

func everyRow(t *testing.T, x shape, mode int, list []func(c *pair), row []int) {
	t.Helper()
	c := newPair(t, 1, x, false)
	for _, b := range []int{1, 3} {
		c.halves(func(h *half) { h.s.Mark(b); h.s.Apply(b, fill(0)) })
	}
	c.start(mode)
	for _, i := range row {
		list[i](c)
		c.alike(fmt.Sprintf("row %v of mode %d", row, mode))
	}
}
