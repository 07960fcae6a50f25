package node

import (
	"bytes"
	"slices"
	"testing"

	"replica/api"
	"replica/disk"
	"replica/greet"
	"replica/link"
	"replica/store"
	"replica/wire"
)

// desk: one node, and at the other end of its link a hand that says what a test bids.
type desk struct {
	*pair
	i       int
	l       *link.Link
	session uint32
	got     []api.Packet // what the node has sent
	deaf    bool         // the hand hears nothing
}

func newDesk(t *testing.T, c api.Config, i int) *desk {
	t.Helper()
	return &desk{pair: newPair(t, c, true), i: i, session: 100}
}

func (d *desk) node() *Node { return d.n[d.i] }

func (d *desk) status() api.Status { return d.n[d.i].Status() }

// super is what the node's superblock says.
func (d *desk) super() api.Super {
	d.t.Helper()
	return superOf(d.t, d.d[d.i])
}

// superOf tells a disk's superblock, as one who starts on a copy of it finds it.
func superOf(t *testing.T, d *disk.Disk) api.Super {
	t.Helper()
	return storeOf(t, d).Super()
}

func storeOf(t *testing.T, d *disk.Disk) *store.Store {
	t.Helper()
	blocks, size := d.Geometry()
	other, _ := disk.Load(blocks, size, d.Image())
	s, _, e := store.Open(other)
	if e != api.OK {
		t.Fatalf("the disk cannot be opened: %v", e)
	}
	return s
}

// lookUp begins a session of the hand.
func (d *desk) lookUp() {
	d.t.Helper()
	d.session++
	d.got = nil
	d.l, _ = link.New(64, api.MaxBacklog, 1000-1, 1000)
	d.must("the hand opens", d.l.Open(d.session, 7*d.session))
}

// exchange hands frames over until none is on its way.
func (d *desk) exchange() {
	d.t.Helper()
	for {
		for len(d.way[1-d.i]) > 0 {
			frame := d.way[1-d.i][0]
			d.way[1-d.i] = d.way[1-d.i][1:]
			if !d.deaf {
				d.hear(frame)
			}
		}
		frames := d.l.Out()
		if len(frames) == 0 {
			return
		}
		for _, f := range frames {
			if d.n[d.i] != nil {
				d.take(d.i, f)
			}
		}
	}
}

func (d *desk) hear(frame []byte) {
	d.t.Helper()
	payloads, _ := d.l.Take(frame)
	for _, b := range payloads {
		p, _, e := wire.DecodePacket(b)
		if e != api.OK {
			d.t.Fatalf("the node sent no packet: %v", e)
		}
		d.got = append(d.got, p)
	}
}

// heard takes what the node has sent.
func (d *desk) heard() []api.Packet {
	list := d.got
	d.got = nil
	return list
}

// say sends packets, and gives what comes back.
func (d *desk) say(list ...api.Packet) []api.Packet {
	d.t.Helper()
	for _, p := range list {
		b, e := wire.EncodePacket(p)
		d.must("the hand's packet", e)
		d.sayBytes(b)
	}
	return d.heard()
}

func (d *desk) sayBytes(b []byte) {
	d.t.Helper()
	d.must("the hand sends", d.l.Send(b))
	d.exchange()
}

// meet: the node looks for a peer, and the hand's link opens; the node's Feature has come.
func (d *desk) meet(discard bool) {
	d.t.Helper()
	d.must("P1703", d.connect(d.i, discard))
	d.open()
}

func (d *desk) open() {
	d.t.Helper()
	d.lookUp()
	d.exchange()
	if d.status().Conn != api.Greeting {
		d.t.Fatalf("P1711: Conn %d, want Greeting", d.status().Conn)
	}
}

// self: what the hand brings: a peer like the node's, clean and up to date.
func (d *desk) self() api.Self {
	c := d.c
	return api.Self{Node: 1 - d.i, Secret: c.Secret, Nonce: fill(16, byte(d.session)), Blocks: c.Blocks, Size: c.Size, Protocol: c.Protocol,
		Gens: api.Gens{Current: 1024}, Flags: api.FlagConsistent, Role: api.Secondary, Disk: api.UpToDate,
		Bits: make([]uint64, (c.Blocks+63)/64), Sb0: c.Sb0, Sb1: c.Sb1, Sb2: c.Sb2}
}

// greets plays the hand's side of a handshake; it gives what the node sent in it, and what it sent behind it.
func (d *desk) greets(self api.Self) (during, behind []api.Packet) {
	d.t.Helper()
	m, e := greet.New(self)
	d.must("the hand greets", e)
	back, _ := m.Start()
	rest := d.heard()
	for done := false; !done && e == api.OK; {
		for _, p := range back {
			b, _ := wire.EncodePacket(p)
			d.l.Send(b) // the node may have closed the link by now
			d.exchange()
		}
		if rest = append(rest, d.heard()...); len(rest) == 0 {
			break
		}
		during = append(during, rest[0])
		back, done, e = m.Receive(rest[0])
		rest = rest[1:]
	}
	return during, rest
}

// joins brings the node to Connected, SyncSource or SyncTarget, as what the hand brings asks for; it gives what the node sent behind the handshake.
func (d *desk) joins(change func(s *api.Self)) []api.Packet {
	d.t.Helper()
	d.meet(false)
	s := d.self()
	change(&s)
	_, behind := d.greets(s)
	if c := d.status().Conn; c < api.Connected {
		d.t.Fatalf("P1712: Conn %d (why %d)", c, d.node().Why())
	}
	return behind
}

// tickNode lets a tick go by, and gives what the node sent.
func (d *desk) tickNode() []api.Packet {
	d.t.Helper()
	d.tick(d.i)
	d.exchange()
	return d.heard()
}

func samePacket(a, b api.Packet) bool {
	same := bytes.Equal(a.Data, b.Data)
	return same && a.Cmd == b.Cmd && a.Id == b.Id && a.Block == b.Block && a.Epoch == b.Epoch && a.Count == b.Count && a.Flags == b.Flags && a.Gens == b.Gens && a.Sum == b.Sum
}

// sends holds what the node sent against what it should have.
func (d *desk) sends(what string, got []api.Packet, want ...api.Packet) {
	d.t.Helper()
	if !slices.EqualFunc(got, want, samePacket) {
		d.t.Fatalf("%s: sent %s, want %s", what, tellPackets(got), tellPackets(want))
	}
}

func tellPackets(list []api.Packet) string {
	text := ""
	for _, p := range list {
		name, _ := wire.Name(p.Cmd)
		text += " " + name + "{" + num(int(p.Id)) + " " + num(int(p.Block)) + " epoch " + num(int(p.Epoch)) + " count " + num(int(p.Count)) + " flags " + num(int(p.Flags))
		if p.Gens != (api.Gens{}) {
			text += " gens " + num(int(p.Gens.Current)) + " " + num(int(p.Gens.Bitmap)) + " " + num(int(p.Gens.Old1)) + " " + num(int(p.Gens.Old2))
		}
		text += "}"
	}
	return text
}

func packet(cmd int, id, block uint32) api.Packet { return api.Packet{Cmd: cmd, Id: id, Block: block} }

func stateOf(role, disk int) api.Packet {
	return api.Packet{Cmd: api.CmdState, Flags: uint32(role + 4*disk)}
}

func gensOf(g api.Gens) api.Packet { return api.Packet{Cmd: api.CmdGens, Gens: g} }

// is holds the node against a state of its connection and a reason.
func (d *desk) is(what string, conn int, why api.Errno) {
	d.t.Helper()
	if c, w := d.status().Conn, d.node().Why(); c != conn || w != why {
		d.t.Fatalf("%s: Conn %d, why %d; want %d, %d", what, c, w, conn, why)
	}
}

func (d *desk) peers(what string, role, disk int) {
	d.t.Helper()
	if s := d.status(); s.Peer != role || s.Pdsk != disk {
		d.t.Fatalf("%s: the peer is %d, its disk %d; want %d, %d", what, s.Peer, s.Pdsk, role, disk)
	}
}

func (d *desk) flags(what string, want uint32) {
	d.t.Helper()
	if f := d.super().Flags; f != want {
		d.t.Fatalf("%s: flags %d, want %d", what, f, want)
	}
}

func (d *desk) gens(what string, want api.Gens) {
	d.t.Helper()
	if g := d.node().Gens(); g != want || d.super().Gens != want {
		d.t.Fatalf("%s: %v (on the disk %v), want %v", what, g, d.super().Gens, want)
	}
}

func (d *desk) answers1(what string, want ...api.Answer) {
	d.t.Helper()
	if got := d.answered(); !slices.EqualFunc(got, want, sameAnswer) {
		d.t.Fatalf("%s: answers %v, want %v", what, got, want)
	}
}
