package resync

import (
	"bytes"
	"crypto/sha256"
	"fmt"
	"slices"
	"testing"

	"replica/api"
	"replica/disk"
	"replica/locks"
	"replica/meta"
	"replica/store"
)

// dice: numbers that look like chance and are the same each time.
type dice uint64

func (d *dice) below(n int) int {
	*d = *d*6364136223846793005 + 1442695040888963407
	return int(uint64(*d) >> 33 % uint64(n))
}

func (d *dice) one(list ...int) int { return list[d.below(len(list))] }

func (d *dice) picks() []byte {
	picks := make([]byte, d.below(7))
	for i := range picks {
		picks[i] = byte(d.below(256))
	}
	return picks
}

// shape: blocks and size of a store, waiters of a table; rate, burst and ahead of an engine. full: the superblock's number has come to its end.
type shape struct {
	blocks, size, waiters, rate, burst, ahead int
	full                                      bool
}

// usual is what the examples speak of.
var usual = shape{blocks: 8, size: 128, waiters: 100, rate: 2, burst: 3, ahead: 4}

// side: an engine and what stands below it.
type side struct {
	t *testing.T
	x shape
	d *disk.Disk
	s *store.Store
	l *locks.Table
	e *Engine
}

// formatted gives a disk with a store's metadata on it, all data zero.
func formatted(t *testing.T, x shape, marked bool) *disk.Disk {
	t.Helper()
	plan, e := meta.Plan(x.blocks, x.size, 2)
	if e != api.OK {
		t.Fatalf("Plan of %+v: %v", x, e)
	}
	d, _ := disk.New(plan.Total, x.size)
	if e := store.Format(d, x.blocks, 2, api.Gens{Current: 8}, api.FlagConsistent, marked); e != api.OK {
		t.Fatalf("Format of %+v: %v", x, e)
	}
	if x.full {
		super := api.Super{Seq: 1 << 62, Blocks: x.blocks, Size: x.size, Slots: 2, Gens: api.Gens{Current: 8}, Mark: x.blocks}
		if marked {
			super.Mark = 0
		}
		block, e := meta.Seal(super)
		if e != api.OK || d.Through(plan.Super+1, block) != nil {
			t.Fatalf("Seal of %+v: %v", super, e)
		}
	}
	return d
}

// newSide: all blocks zero, every block marked or none.
func newSide(t *testing.T, x shape, marked bool) *side {
	t.Helper()
	v := &side{t: t, x: x, d: formatted(t, x, marked)}
	v.open()
	return v
}

// open: a store as the disk has it, a new table, a new engine.
func (v *side) open() {
	v.t.Helper()
	var e api.Errno
	if v.s, _, e = store.Open(v.d); e != api.OK {
		v.t.Fatalf("Open: %v", e)
	}
	v.l, e = locks.New((v.x.blocks+3)/4, v.x.waiters)
	if e != api.OK {
		v.t.Fatalf("a table for %+v: %v", v.x, e)
	}
	v.e, e = New(v.s, v.l, v.x.rate, v.x.burst, v.x.ahead)
	if v.e == nil || e != api.OK {
		v.t.Fatalf("P1601: New for %+v: %v", v.x, e)
	}
}

// started: a usual side with every block marked, in that mode.
func started(t *testing.T, mode int) *side {
	t.Helper()
	v := newSide(t, usual, true)
	v.start(mode)
	return v
}

func (v *side) start(mode int, packets ...api.Packet) {
	v.t.Helper()
	o, e := v.e.Start(mode)
	if e != api.OK {
		v.t.Fatalf("P1602: Start(%d): %v", mode, e)
	}
	v.gives("P1602: Start", o, packets)
}

// lay writes bytes durably, past the store.
func (v *side) lay(block int, c byte) {
	v.t.Helper()
	if err := v.d.Through(block, v.fill(c)); err != nil {
		v.t.Fatal(err)
	}
}

func (v *side) fill(c byte) []byte { return bytes.Repeat([]byte{c}, v.x.size) }

func fill(c byte) []byte { return bytes.Repeat([]byte{c}, 128) }

// word: a packet that has an Id and a Block alone.
func word(cmd int, id, block uint32) api.Packet {
	return api.Packet{Cmd: cmd, Id: id, Block: block}
}

// asks: a request for the digest of a block of 128 bytes c.
func asks(id, block uint32, c byte) api.Packet {
	return api.Packet{Cmd: api.CmdSumRequest, Id: id, Block: block, Sum: sha256.Sum256(fill(c))}
}

func asksBlind(id, block uint32) api.Packet {
	return api.Packet{Cmd: api.CmdSumRequest, Id: id, Block: block, Flags: 1}
}

func ships(id, block uint32, c byte) api.Packet {
	return api.Packet{Cmd: api.CmdSyncData, Id: id, Block: block, Data: fill(c)}
}

func same(id, block uint32) api.Packet { return word(api.CmdInSync, id, block) }

func acks(id, block uint32) api.Packet { return word(api.CmdSyncAck, id, block) }

func refuses(id, block uint32, why api.Errno) api.Packet {
	return api.Packet{Cmd: api.CmdNegAck, Id: id, Block: block, Flags: uint32(why)}
}

func done(count uint32) api.Packet { return api.Packet{Cmd: api.CmdSyncDone, Count: count} }

func looksFor(id, block uint32, c byte) api.Packet {
	return api.Packet{Cmd: api.CmdVerifyRequest, Id: id, Block: block, Sum: sha256.Sum256(fill(c))}
}

func replies(id, block, flags uint32) api.Packet {
	return api.Packet{Cmd: api.CmdVerifyReply, Id: id, Block: block, Flags: flags}
}

func verified(count uint32) api.Packet { return api.Packet{Cmd: api.CmdVerifyDone, Count: count} }

type ps = []api.Packet

func samePacket(p, q api.Packet) bool {
	return bytes.Equal(p.Data, q.Data) && p.Cmd == q.Cmd && p.Id == q.Id && p.Block == q.Block && p.Epoch == q.Epoch &&
		p.Count == q.Count && p.Flags == q.Flags && p.Sum == q.Sum && p.Gens == q.Gens
}

func sameOut(o, p api.Out) bool {
	return slices.EqualFunc(o.Packets, p.Packets, samePacket) && len(o.Answers) == 0 && len(p.Answers) == 0 && slices.Equal(o.Granted, p.Granted)
}

// tell writes what a call gave out, each piece of data by its beginning.
func tell(o api.Out) string {
	text := ""
	for _, p := range o.Packets {
		text += tellPacket(p)
	}
	return text + fmt.Sprintf("granted %v", o.Granted)
}

func tellPacket(p api.Packet) string {
	return fmt.Sprintf("packet %d (id %d block %d count %d flags %d sum %.2x, %d bytes %.2x) ", p.Cmd, p.Id, p.Block, p.Count, p.Flags, p.Sum[:], len(p.Data), p.Data)
}

func (v *side) gives(what string, o api.Out, packets ps, granted ...int) {
	v.t.Helper()
	if want := (api.Out{Packets: packets, Granted: granted}); !sameOut(o, want) {
		v.t.Fatalf("%s: %s; want %s", what, tell(o), tell(want))
	}
}

// takes: a packet that fits, and what is given for it.
func (v *side) takes(what string, p api.Packet, packets ps, granted ...int) {
	v.t.Helper()
	o, e := v.e.Receive(p)
	if e != api.OK {
		v.t.Fatalf("%s: Receive of %s: %v", what, tellPacket(p), e)
	}
	v.gives(what, o, packets, granted...)
}

// wrong: a packet that does not fit, and that changes nothing.
func (v *side) wrong(what string, p api.Packet) {
	v.t.Helper()
	before := v.looks()
	o, e := v.e.Receive(p)
	if e != api.ErrProto {
		v.t.Fatalf("%s: Receive of %s: %v, want ErrProto", what, tellPacket(p), e)
	}
	v.gives(what, o, nil)
	v.stays(what, before)
}

func (v *side) ticks(what string, packets ...api.Packet) {
	v.t.Helper()
	v.gives(what, v.e.Tick(), packets)
}

func (v *side) granted(what string, owner int, packets ps, granted ...int) {
	v.t.Helper()
	v.gives(what, v.e.Granted(owner), packets, granted...)
}

func (v *side) tells(what string, want api.Progress) {
	v.t.Helper()
	if p := v.e.Progress(); p != want {
		v.t.Fatalf("%s: Progress %+v, want %+v", what, p, want)
	}
}

// looks: all that can be seen of a side.
type looks struct {
	progress    api.Progress
	image       []byte
	waiting     []int // cached writes, block by block
	super       api.Super
	bits        []uint64
	stored      []uint64
	locks       string
	wrote       [3]int // what the disk has done, but for reads
	on          bool
	unreadables []int
}

func locksOf(l *locks.Table, extents int) string {
	text := ""
	for i := range extents {
		in, mode, _ := l.Holders(i)
		row, _ := l.Waiters(i)
		text += fmt.Sprintf("%d: %v %d %v; ", i, in, mode, row)
	}
	return text
}

func looksOf(progress api.Progress, x shape, d *disk.Disk, s *store.Store, l *locks.Table) looks {
	c := d.Counts()
	v := looks{progress: progress, image: d.Image(), super: s.Super(), bits: s.Bits(), stored: s.Stored(), on: d.On(),
		locks: locksOf(l, (x.blocks+3)/4), wrote: [3]int{c.Writes, c.Through, c.Flushes}}
	for b := range x.blocks {
		v.waiting = append(v.waiting, d.Waiting(b))
		if _, err := d.Durable(b); err != nil {
			v.unreadables = append(v.unreadables, b)
		}
	}
	return v
}

func (v *side) looks() looks { return looksOf(v.e.Progress(), v.x, v.d, v.s, v.l) }

// differs names what is not alike; "": nothing.
func (v looks) differs(w looks) string {
	switch {
	case v.progress != w.progress:
		return fmt.Sprintf("Progress (%+v, want %+v)", v.progress, w.progress)
	case !bytes.Equal(v.image, w.image):
		return "the disk"
	case !slices.Equal(v.waiting, w.waiting):
		return fmt.Sprintf("what is cached (%v, want %v)", v.waiting, w.waiting)
	case v.super != w.super:
		return fmt.Sprintf("the superblock (%+v, want %+v)", v.super, w.super)
	case !slices.Equal(v.bits, w.bits):
		return fmt.Sprintf("what is marked (%x, want %x)", v.bits, w.bits)
	case !slices.Equal(v.stored, w.stored):
		return fmt.Sprintf("what is stored as marked (%x, want %x)", v.stored, w.stored)
	case v.locks != w.locks:
		return fmt.Sprintf("the locks (%s, want %s)", v.locks, w.locks)
	case v.wrote != w.wrote:
		return fmt.Sprintf("what the disk has done (%v, want %v)", v.wrote, w.wrote)
	case v.on != w.on:
		return "the power"
	case !slices.Equal(v.unreadables, w.unreadables):
		return "what cannot be read"
	}
	return ""
}

func (v *side) stays(what string, before looks) {
	v.t.Helper()
	if d := v.looks().differs(before); d != "" {
		v.t.Fatalf("%s: changed: %s", what, d)
	}
}

// marks holds the marked blocks, in memory and stored, against lists.
func (v *side) marks(what string, memory []int, stored []int) {
	v.t.Helper()
	if !slices.Equal(v.s.Bits(), v.words(memory...)) || !slices.Equal(v.s.Stored(), v.words(stored...)) {
		v.t.Fatalf("%s: Bits %x, Stored %x, want %v, %v", what, v.s.Bits(), v.s.Stored(), memory, stored)
	}
}

func (v *side) words(blocks ...int) []uint64 {
	words := make([]uint64, (v.x.blocks+63)/64)
	for _, b := range blocks {
		words[b/64] |= 1 << (b % 64)
	}
	return words
}

// upTo: the numbers from first to last.
func upTo(first, last int) []int {
	var list []int
	for i := first; i <= last; i++ {
		list = append(list, i)
	}
	return list
}

func (v *side) durable(what string, block int, c byte) {
	v.t.Helper()
	if b, err := v.d.Durable(block); err != nil || !bytes.Equal(b, v.fill(c)) {
		v.t.Fatalf("%s: block %d is durably %.2x, %v, want %x", what, block, b, err, c)
	}
}

func (v *side) owns(what string, extent int, in []int, row ...int) {
	v.t.Helper()
	got, _, _ := v.l.Holders(extent)
	waits, _ := v.l.Waiters(extent)
	if !slices.Equal(got, in) || !slices.Equal(waits, row) {
		v.t.Fatalf("%s: extent %d is held by %v, waited for by %v, want %v, %v", what, extent, got, waits, in, row)
	}
}

func (v *side) acquire(extent, mode, owner int, granted bool) {
	v.t.Helper()
	if in, e := v.l.Acquire(extent, mode, owner); in != granted || e != api.OK {
		v.t.Fatalf("Acquire(%d, %d, %d): %v, %v", extent, mode, owner, in, e)
	}
}

// free: another owner gives an extent back, and the table tells whom it lets in.
func (v *side) free(extent, owner int, granted ...int) {
	v.t.Helper()
	if l, e := v.l.Release(extent, owner); !slices.Equal(l, granted) || e != api.OK {
		v.t.Fatalf("Release(%d, %d): %v, %v, want %v", extent, owner, l, e, granted)
	}
}

// down: somebody else's call meets the disk without power.
func (v *side) down() {
	v.t.Helper()
	v.d.Fuse(0)
	if e := v.s.Flush(); e != api.ErrPower {
		v.t.Fatalf("Flush without power: %v", e)
	}
}

func must(t *testing.T, what string, e api.Errno) {
	t.Helper()
	if e != api.OK {
		t.Fatalf("%s: %v", what, e)
	}
}
