package link

import (
	"bytes"
	"slices"
	"testing"

	"replica/api"
	"replica/wire"
)

// dice: numbers that look like chance and are the same each time.
type dice uint64

func (d *dice) below(n int) int {
	*d = *d*6364136223846793005 + 1442695040888963407
	return int(uint64(*d) >> 33 % uint64(n))
}

func pick[T any](d *dice, from ...T) T { return from[d.below(len(from))] }

// sameLists tells whether two lists of lists of bytes are alike.
func sameLists(a, b [][]byte) bool { return slices.EqualFunc(a, b, bytes.Equal) }

// pair: the link and its model, that are given the same calls.
type pair struct {
	t    *testing.T
	l    *Link
	p    *plain
	step int
}

func newPair(t *testing.T, window, backlog, resend, dead int) *pair {
	t.Helper()
	l, e := New(window, backlog, resend, dead)
	if l == nil || e != api.OK {
		t.Fatalf("New(%d, %d, %d, %d): %v", window, backlog, resend, dead, e)
	}
	return &pair{t: t, l: l, p: &plain{window: window, backlog: backlog, resend: resend, dead: dead}}
}

func (c *pair) errno(what string, got, want api.Errno) {
	c.t.Helper()
	if got != want {
		c.t.Fatalf("step %d: %s: %v, want %v", c.step, what, got, want)
	}
}

// alike holds what can be asked at any time against the model.
func (c *pair) alike(what string) {
	c.t.Helper()
	c.step++
	flying, waiting := c.l.Flight()
	wantFlying, wantWaiting := c.p.flight()
	if c.l.State() != c.p.state || c.l.Peer() != c.p.peer || flying != wantFlying || waiting != wantWaiting {
		c.t.Fatalf("step %d: %s: state %d, peer %d, flight %d, %d, want %d, %d, %d, %d", c.step, what, c.l.State(), c.l.Peer(), flying, waiting, c.p.state, c.p.peer, wantFlying, wantWaiting)
	}
	if len(c.l.session.early) != len(c.p.kept) {
		c.t.Fatalf("step %d: %s: %d payloads are kept as early, want %d", c.step, what, len(c.l.session.early), len(c.p.kept))
	}
}

func (c *pair) open(mine, first uint32) {
	c.t.Helper()
	c.errno("Open", c.l.Open(mine, first), c.p.open(mine, first))
	c.alike("Open")
}

func (c *pair) send(payload []byte) {
	c.t.Helper()
	want := c.p.send(payload)
	own := bytes.Clone(payload)
	got := c.l.Send(own)
	if !bytes.Equal(own, payload) {
		c.t.Fatalf("step %d: Send changed what it was handed", c.step)
	}
	spoil(own)
	c.errno("Send", got, want)
	c.alike("Send")
}

func (c *pair) take(frame []byte) {
	c.t.Helper()
	want, e := c.p.take(frame)
	own := bytes.Clone(frame)
	got, g := c.l.Take(own)
	if !bytes.Equal(own, frame) {
		c.t.Fatalf("step %d: Take changed what it was handed", c.step)
	}
	spoil(own)
	f, _ := wire.DecodeFrame(frame)
	if g != e || !sameLists(got, want) {
		c.t.Fatalf("step %d: Take(%+v): %q, %v, want %q, %v", c.step, f, got, g, want, e)
	}
	for _, one := range got {
		spoil(one)
	}
	c.alike("Take")
}

func (c *pair) out() {
	c.t.Helper()
	got, want := c.l.Out(), c.p.out()
	if !sameLists(got, want) {
		for _, b := range got {
			f, e := wire.DecodeFrame(b)
			c.t.Logf("laid %+v, %v", f, e)
		}
		for _, b := range want {
			f, _ := wire.DecodeFrame(b)
			c.t.Logf("want %+v", f)
		}
		c.t.Fatalf("step %d: Out gives %d frames, want %d", c.step, len(got), len(want))
	}
	for _, one := range got {
		spoil(one)
	}
	clear(got[:cap(got)])
	c.alike("Out")
}

// spoil overwrites a list and the spare room behind it.
func spoil(b []byte) {
	b = b[:cap(b)]
	for i := range b {
		b[i] ^= 0xff
	}
}

// drawn is a frame near to what the link is at: of its own two sessions or of others, with numbers on the edges.
func (c *pair) drawn(d *dice) []byte {
	p := c.p
	var newest uint32
	if len(p.told) > 0 {
		newest = slices.Max(p.told)
	}
	f := api.Frame{Kind: pick(d, 1, 2, 2, 2, 2, 3, 3, 3), From: p.peer, To: p.mine}
	if d.below(40) == 0 {
		f.Kind = api.FrameClose
	}
	if p.peer == 0 || d.below(12) == 0 {
		f.From = pick(d, 0, 1, newest-1, newest, newest, newest+1, newest+2)
	}
	if d.below(8) == 0 {
		f.To = pick(d, 0, p.mine-1, p.mine+1)
	}
	window, flying := uint32(p.window), uint32(p.flown-p.heard)
	steps := []uint32{0, 0, 0, 1, window - 1, window, window + 1, 1<<31 - 1, 1 << 31, 1<<31 + 1, 1<<32 - 1, 1<<32 - 2, uint32(d.below(p.window))}
	f.Seq = p.expected + pick(d, steps...)
	f.Ack = p.number(p.heard) + pick(d, 0, 0, 1, flying, flying, flying+1, 1<<31-1, 1<<31, 1<<31+1, 1<<32-1, uint32(d.below(int(flying)+1)))
	if f.Kind == api.FrameData {
		f.Payload = bytes.Repeat([]byte{byte(d.below(256))}, pick(d, 1, 2, 3, 2048))
	}
	b, _ := wire.EncodeFrame(f)
	switch d.below(40) {
	case 0:
		return b[:d.below(len(b))]
	case 1:
		return append(b, 0)
	case 2:
		b[d.below(len(b))] ^= byte(1 + d.below(255))
	}
	return b
}

// call makes one call, drawn by the dice.
func (c *pair) call(d *dice, busy bool) {
	c.t.Helper()
	switch n := d.below(60); {
	case n < 2 || !c.p.on() && n < 20:
		c.open(pick(d, c.p.mine, c.p.mine+1, c.p.mine+1, c.p.mine+1, c.p.mine+3, 0, 1), pick[uint32](d, 0, 7, 1<<31, 1<<32-1, 1<<32-3))
	case n < 3:
		c.l.Close()
		c.p.close()
		c.alike("Close")
	case n < 15:
		c.send(bytes.Repeat([]byte{byte(d.below(256))}, pick(d, 1, 1, 2, 2, 5, 2048, 0, 2049)))
	case n < 45 && (busy || n < 25):
		c.take(c.drawn(d))
	case n < 55:
		c.l.Tick()
		c.p.tick()
		c.alike("Tick")
	default:
		c.out()
	}
}

// P801 to P813: rows of calls, each held against the model.
func TestRows(t *testing.T) {
	d := dice(8)
	for range 400 {
		resend := 1 + d.below(4)
		c := newPair(t, pick(&d, 1, 1, 2, 3, 4, 64), pick(&d, 0, 0, 1, 2, 3, 1024), resend, resend+1+d.below(5))
		busy := d.below(2) == 0
		for range 400 {
			c.call(&d, busy)
		}
		c.out()
	}
}

// P801 to P813: every row of a few calls, behind each of a few beginnings.
func TestShortRows(t *testing.T) {
	frame := func(kind int, from, to, seq, ack uint32) []byte {
		f := api.Frame{Kind: kind, From: from, To: to, Seq: seq, Ack: ack}
		if kind == api.FrameData {
			f.Payload = []byte{byte(seq), byte(ack)}
		}
		b, _ := wire.EncodeFrame(f)
		return b
	}
	calls := []func(c *pair){
		func(c *pair) { c.open(c.p.mine+1, 1<<32-1) },
		func(c *pair) { c.l.Close(); c.p.close(); c.alike("Close") },
		func(c *pair) { c.send([]byte{byte(c.step)}) },
		func(c *pair) { c.l.Tick(); c.p.tick(); c.alike("Tick") },
		func(c *pair) { c.out() },
		func(c *pair) { c.take(frame(api.FrameOpen, 5, 0, 1<<32-1, 9)) },
		func(c *pair) { c.take(frame(api.FrameOpen, 5, c.p.mine, 1<<32-1, 9)) },
		func(c *pair) { c.take(frame(api.FrameOpen, 6, c.p.mine, 3, 9)) },
		func(c *pair) { c.take(frame(api.FrameAck, 5, c.p.mine, 0, 0)) },
		func(c *pair) { c.take(frame(api.FrameAck, 5, c.p.mine, 0, 2)) },
		func(c *pair) { c.take(frame(api.FrameData, 5, c.p.mine, 1<<32-1, 1)) },
		func(c *pair) { c.take(frame(api.FrameData, 5, c.p.mine, 0, 1<<32-1)) },
		func(c *pair) { c.take(frame(api.FrameData, 5, c.p.mine, 1, 0)) },
		func(c *pair) { c.take(frame(api.FrameClose, 5, c.p.mine, 0, 0)) },
	}
	beginnings := [][]int{{}, {0}, {0, 5}, {0, 2, 5}, {0, 6}, {0, 2, 2, 2, 6}, {0, 6, 11}, {0, 6, 2, 2, 12, 3}, {0, 6, 3, 3}, {0, 6, 3, 1, 0}, {0, 6, 7}, {0, 5, 7}}
	const length = 3
	for _, begin := range beginnings {
		rows := 1
		for range length {
			rows *= len(calls)
		}
		for row := range rows {
			c := newPair(t, 2, 1, 1, 3)
			for _, i := range begin {
				calls[i](c)
			}
			for n := row; c.step < len(begin)+length; n /= len(calls) {
				calls[n%len(calls)](c)
			}
			c.out()
		}
	}
}
