package repl

import (
	"bytes"
	"fmt"
	"slices"
	"testing"

	"replica/api"
	"replica/disk"
	"replica/locks"
	"replica/meta"
	"replica/store"
)

// dice: numbers that look like chance and are the same each time.
type dice uint64

func (d *dice) below(n int) int {
	*d = *d*6364136223846793005 + 1442695040888963407
	return int(uint64(*d) >> 33 % uint64(n))
}

func picks(d *dice) []byte {
	picks := make([]byte, d.below(7))
	for i := range picks {
		picks[i] = byte(d.below(256))
	}
	return picks
}

// desk: an engine and what stands below it.
type desk struct {
	t *testing.T
	d *disk.Disk
	s *store.Store
	l *locks.Table
	e *Engine
	c api.Config
}

// shape: blocks, size and slots of a store; waiters of a table; protocol, epoch and queue of a resource.
type shape struct {
	blocks, size, slots, waiters, protocol, epoch, queue int
}

// usual is what the examples speak of.
var usual = shape{8, 128, 2, 100, api.ProtoC, 2, 4}

func (x shape) config() api.Config {
	return api.Config{Protocol: x.protocol, Epoch: x.epoch, Queue: x.queue}
}

// ground makes a formatted disk with its store, and a table.
func ground(t *testing.T, x shape) (*disk.Disk, *store.Store, *locks.Table) {
	t.Helper()
	plan, e := meta.Plan(x.blocks, x.size, x.slots)
	if e != api.OK {
		t.Fatalf("Plan of %+v: %v", x, e)
	}
	d, _ := disk.New(plan.Total, x.size)
	if e := store.Format(d, x.blocks, x.slots, api.Gens{Current: 8}, api.FlagPrimary, false); e != api.OK {
		t.Fatalf("Format of %+v: %v", x, e)
	}
	s, _, _ := store.Open(d)
	l, e := locks.New((x.blocks+3)/4, x.waiters)
	if s == nil || e != api.OK {
		t.Fatalf("%+v: %v", x, e)
	}
	return d, s, l
}

func newDesk(t *testing.T, x shape) *desk {
	t.Helper()
	d, s, l := ground(t, x)
	e, err := New(s, l, x.config())
	if e == nil || err != api.OK {
		t.Fatalf("P1401: New of %+v: %v", x, err)
	}
	return &desk{t: t, d: d, s: s, l: l, e: e, c: x.config()}
}

func joinedDesk(t *testing.T, x shape) *desk {
	t.Helper()
	v := newDesk(t, x)
	v.connect()
	return v
}

func (v *desk) connect() {
	v.t.Helper()
	if e := v.e.Connect(); e != api.OK || !v.e.Connected() {
		v.t.Fatalf("P1404: Connect: %v", e)
	}
}

func fill(c byte) []byte { return bytes.Repeat([]byte{c}, 128) }

func read(id, block int) api.Op { return api.Op{Id: id, Kind: api.OpRead, Block: block} }

func write(id, block int, c byte) api.Op {
	return api.Op{Id: id, Kind: api.OpWrite, Block: block, Data: fill(c)}
}

func zero(id, block int) api.Op { return api.Op{Id: id, Kind: api.OpZero, Block: block} }

func flush(id int) api.Op { return api.Op{Id: id, Kind: api.OpFlush} }

func dataOf(id, block, epoch uint32, c byte) api.Packet {
	return api.Packet{Cmd: api.CmdData, Id: id, Block: block, Epoch: epoch, Data: fill(c)}
}

func zeroOf(id, block, epoch uint32) api.Packet {
	return api.Packet{Cmd: api.CmdZero, Id: id, Block: block, Epoch: epoch}
}

// word: a packet that has an Id and a Block alone.
func word(cmd int, id, block uint32) api.Packet {
	return api.Packet{Cmd: cmd, Id: id, Block: block}
}

func barrier(cmd int, epoch, count uint32) api.Packet {
	return api.Packet{Cmd: cmd, Epoch: epoch, Count: count}
}

func replyOf(id, block, flags uint32, data []byte) api.Packet {
	return api.Packet{Cmd: api.CmdReadReply, Id: id, Block: block, Flags: flags, Data: data}
}

func ok(id int) api.Answer { return api.Answer{Id: id} }

func got(id int, data []byte) api.Answer { return api.Answer{Id: id, Data: data} }

func failed(id int, e api.Errno) api.Answer { return api.Answer{Id: id, Err: e} }

type (
	ps = []api.Packet
	as = []api.Answer
)

func samePacket(p, q api.Packet) bool {
	return bytes.Equal(p.Data, q.Data) && p.Cmd == q.Cmd && p.Id == q.Id && p.Block == q.Block && p.Epoch == q.Epoch &&
		p.Count == q.Count && p.Flags == q.Flags && p.Sum == q.Sum && p.Gens == q.Gens
}

func sameAnswer(a, b api.Answer) bool {
	return a.Id == b.Id && a.Err == b.Err && bytes.Equal(a.Data, b.Data)
}

func sameOut(o, p api.Out) bool {
	return slices.EqualFunc(o.Packets, p.Packets, samePacket) && slices.EqualFunc(o.Answers, p.Answers, sameAnswer) && slices.Equal(o.Granted, p.Granted)
}

// tell writes what a call gave out, each piece of data by its beginning.
func tell(o api.Out) string {
	text := ""
	for _, p := range o.Packets {
		text += fmt.Sprintf("packet %d (id %d block %d epoch %d count %d flags %d, %d bytes %.4q) ", p.Cmd, p.Id, p.Block, p.Epoch, p.Count, p.Flags, len(p.Data), p.Data)
	}
	for _, a := range o.Answers {
		text += fmt.Sprintf("answer %d (%d, %d bytes %.4q) ", a.Id, a.Err, len(a.Data), a.Data)
	}
	return text + fmt.Sprintf("granted %v", o.Granted)
}

func (v *desk) gives(what string, o api.Out, packets ps, answers as, granted ...int) {
	v.t.Helper()
	if want := (api.Out{Packets: packets, Answers: answers, Granted: granted}); !sameOut(o, want) {
		v.t.Fatalf("%s: %s; want %s", what, tell(o), tell(want))
	}
}

func (v *desk) submit(what string, op api.Op, packets ps, answers as, granted ...int) {
	v.t.Helper()
	o, e := v.e.Submit(op)
	if e != api.OK {
		v.t.Fatalf("%s: Submit of %d: %v", what, op.Id, e)
	}
	v.gives(what, o, packets, answers, granted...)
}

func (v *desk) refused(what string, op api.Op, want api.Errno) {
	v.t.Helper()
	before := v.looks()
	o, e := v.e.Submit(op)
	if e != want {
		v.t.Fatalf("%s: Submit of %d (kind %d, block %d): %v, want %v", what, op.Id, op.Kind, op.Block, e, want)
	}
	v.gives(what, o, nil, nil)
	v.same(what, before)
}

func (v *desk) receive(what string, p api.Packet, packets ps, answers as, granted ...int) {
	v.t.Helper()
	o, e := v.e.Receive(p)
	if e != api.OK {
		v.t.Fatalf("%s: Receive of %s: %v", what, tell(api.Out{Packets: ps{p}}), e)
	}
	v.gives(what, o, packets, answers, granted...)
}

func (v *desk) wrong(what string, p api.Packet, want api.Errno) {
	v.t.Helper()
	before := v.looks()
	o, e := v.e.Receive(p)
	if e != want {
		v.t.Fatalf("%s: Receive of %s: %v, want %v", what, tell(api.Out{Packets: ps{p}}), e, want)
	}
	v.gives(what, o, nil, nil)
	v.same(what, before)
}

func (v *desk) tells(what string, pending, size, epochs int, counts ...int) {
	v.t.Helper()
	s, n := v.e.Log()
	a, b, c, d := v.e.Counts()
	if v.e.Pending() != pending || s != size || n != epochs || len(counts) == 4 && !slices.Equal(counts, []int{a, b, c, d}) {
		v.t.Fatalf("%s: Pending %d, Log %d %d, Counts %d %d %d %d, want %d, %d %d, %v", what, v.e.Pending(), s, n, a, b, c, d, pending, size, epochs, counts)
	}
}

// marks holds the marked blocks, in memory and stored, against a list.
func (v *desk) marks(what string, blocks ...int) {
	v.t.Helper()
	want := make([]uint64, (v.s.Layout().Blocks+63)/64)
	for _, b := range blocks {
		want[b/64] |= 1 << (b % 64)
	}
	if !slices.Equal(v.s.Bits(), want) || !slices.Equal(v.s.Stored(), want) {
		v.t.Fatalf("%s: Bits %x, Stored %x, want %x", what, v.s.Bits(), v.s.Stored(), want)
	}
}

func (v *desk) durable(what string, block int, want []byte) {
	v.t.Helper()
	if b, err := v.d.Durable(block); err != nil || !bytes.Equal(b, want) {
		v.t.Fatalf("%s: block %d is durably %.4q, %v, want %.4q", what, block, b, err, want)
	}
}

func (v *desk) acquire(extent, mode, owner int, granted bool) {
	v.t.Helper()
	if in, e := v.l.Acquire(extent, mode, owner); in != granted || e != api.OK {
		v.t.Fatalf("Acquire(%d, %d, %d): %v, %v", extent, mode, owner, in, e)
	}
}

// free: another owner gives an extent back, and the table tells whom it lets in.
func (v *desk) free(extent, owner int, granted ...int) {
	v.t.Helper()
	if l, e := v.l.Release(extent, owner); !slices.Equal(l, granted) || e != api.OK {
		v.t.Fatalf("Release(%d, %d): %v, %v, want %v", extent, owner, l, e, granted)
	}
}

func (v *desk) owns(what string, extent int, owners ...int) {
	v.t.Helper()
	if l, _, _ := v.l.Holders(extent); !slices.Equal(l, owners) {
		v.t.Fatalf("%s: extent %d is held by %v, want %v", what, extent, l, owners)
	}
}

// look: all that can be seen of an engine and of what stands below it.
type look struct {
	connected             bool
	pending, size, epochs int
	counts                [4]int
	bits, stored          []uint64
	hot, covered          []int
	records               int
	disk                  api.Counts
	image                 []byte
	cached, waiting       []int
	holders, rows         [][]int
	modes                 []int
}

func (v *desk) looks() look { return looksOf(v.e, v.s, v.d, v.l) }

// seen: what an engine tells of itself; the model has it too.
type seen interface {
	Connected() bool
	Pending() int
	Log() (int, int)
	Counts() (int, int, int, int)
}

func looksOf(e seen, s *store.Store, d *disk.Disk, l *locks.Table) look {
	k := look{connected: e.Connected(), pending: e.Pending(), bits: s.Bits(), stored: s.Stored(), hot: s.Hot(), covered: s.Covered(), records: s.Records(), disk: d.Counts(), image: d.Image(), cached: d.Cached()}
	k.size, k.epochs = e.Log()
	k.counts[0], k.counts[1], k.counts[2], k.counts[3] = e.Counts()
	k.disk.Reads = 0
	for _, b := range k.cached {
		k.waiting = append(k.waiting, d.Waiting(b))
	}
	for extent := 0; ; extent++ {
		holders, mode, e := l.Holders(extent)
		if e != api.OK {
			return k
		}
		row, _ := l.Waiters(extent)
		k.holders, k.rows, k.modes = append(k.holders, holders), append(k.rows, row), append(k.modes, mode)
	}
}

// differs names what is not alike; with locks or without.
func (k look) differs(m look, tables bool) string {
	switch {
	case k.connected != m.connected:
		return "Connected"
	case k.pending != m.pending:
		return "Pending"
	case k.size != m.size || k.epochs != m.epochs:
		return "Log"
	case k.counts != m.counts:
		return "Counts"
	case !slices.Equal(k.bits, m.bits) || !slices.Equal(k.stored, m.stored):
		return "the marks"
	case !slices.Equal(k.hot, m.hot) || !slices.Equal(k.covered, m.covered) || k.records != m.records:
		return "the activity log"
	case k.disk != m.disk:
		return "what was written"
	case !bytes.Equal(k.image, m.image) || !slices.Equal(k.cached, m.cached) || !slices.Equal(k.waiting, m.waiting):
		return "the disk"
	case tables && (!slices.EqualFunc(k.holders, m.holders, slices.Equal) || !slices.EqualFunc(k.rows, m.rows, slices.Equal) || !slices.Equal(k.modes, m.modes)):
		return "the lock table"
	}
	return ""
}

func (v *desk) same(what string, before look) {
	v.t.Helper()
	if now := v.looks(); now.differs(before, true) != "" {
		v.t.Fatalf("%s: %s changed", what, now.differs(before, true))
	}
}

// wantDead asks all calls of an engine whose store has lost its power.
func (v *desk) wantDead(what string) {
	v.t.Helper()
	for _, op := range []api.Op{read(1, 0), read(0, -1), flush(5), write(9, 1, 'x'), {}} {
		if o, e := v.e.Submit(op); e != api.ErrPower || !sameOut(o, api.Out{}) {
			v.t.Fatalf("%s: dead: Submit: %v, %v", what, o, e)
		}
	}
	for _, p := range []api.Packet{{}, word(api.CmdWriteAck, 1, 0), dataOf(1, 0, 1, 'x'), word(api.CmdReadRequest, 1, 0), barrier(api.CmdBarrier, 1, 1)} {
		if o, e := v.e.Receive(p); e != api.ErrPower || !sameOut(o, api.Out{}) {
			v.t.Fatalf("%s: dead: Receive: %v, %v", what, o, e)
		}
	}
	if e := v.e.Connect(); e != api.ErrPower {
		v.t.Fatalf("%s: dead: Connect: %v", what, e)
	}
	for i, o := range []api.Out{v.e.Granted(1), v.e.Granted(-1), v.e.Disconnect(), v.e.Hold(true), v.e.Hold(false), v.e.Disconnect()} {
		v.gives(what+": dead: call "+string(rune('0'+i)), o, nil, nil)
	}
	if v.e.Connected() {
		v.t.Fatalf("%s: dead: Connected", what)
	}
	v.tells(what+": dead", 0, 0, 0, 0, 0, 0, 0)
}
