package node

import (
	"slices"
	"testing"

	"replica/api"
	"replica/disk"
	"replica/wire"
)

// die lets the link die of silence.
func (d *desk) die() {
	d.t.Helper()
	for range d.c.Dead {
		d.tick(d.i)
	}
}

// kinds tells the kinds of the frames on the way to the hand, and forgets them.
func (d *desk) kinds() []int {
	d.t.Helper()
	var list []int
	for _, b := range d.way[1-d.i] {
		f, e := wire.DecodeFrame(b)
		d.must("a frame", e)
		list = append(list, f.Kind)
	}
	d.way[1-d.i] = nil
	return list
}

func (d *desk) lays(what string, want ...int) {
	d.t.Helper()
	if got := d.kinds(); !slices.Equal(got, want) {
		d.t.Fatalf("%s: frames of the kinds %v, want %v", what, got, want)
	}
}

// TestLostWays is P1710: by what a connection is lost, and whether it is looked for again.
func TestLostWays(t *testing.T) {
	for _, k := range []struct {
		name string
		lose func(d *desk)
		conn int
		why  api.Errno
		lays []int
	}{
		{"silence", (*desk).die, api.Connecting, api.ErrDown, nil},
		{"a close", func(d *desk) { d.l.Close(); d.take(0, d.l.Out()[0]) }, api.Connecting, api.ErrDown, []int{api.FrameOpen}},
		{"a new session", func(d *desk) { d.lookUp(); d.take(0, d.l.Out()[0]) }, api.Connecting, api.ErrDown, []int{api.FrameOpen}},
		{"the operator", func(d *desk) { d.must("P1704", d.disconnect(0)) }, api.StandAlone, api.OK, []int{api.FrameClose}},
		{"no packet", func(d *desk) { d.deaf = true; d.l.Send([]byte{99}); d.take(0, d.l.Out()[0]) }, api.StandAlone, api.ErrProto, []int{api.FrameAck, api.FrameClose}},
	} {
		for _, stage := range []string{"Greeting", "Connected", "SyncSource", "SyncTarget", "Primary"} {
			d := newDesk(t, resource(), 0)
			s := d.self()
			switch stage {
			case "SyncSource":
				s.Bits = []uint64{3}
			case "SyncTarget":
				s.Gens = api.Gens{Current: 2000, Bitmap: 1024}
			case "Primary":
				d.must("", d.promote(0, false))
			}
			d.meet(false)
			if stage != "Greeting" {
				d.greets(s)
			}
			seq := d.super().Seq
			k.lose(d)
			d.is("P1710: "+stage+", "+k.name, k.conn, k.why)
			d.peers("P1710: "+stage, api.NoRole, api.NoDisk)
			if k.lays != nil {
				d.lays("P1710: "+stage+", "+k.name, k.lays...)
			}
			want := seq
			if k.conn == api.Connecting {
				want++
			}
			if x := d.super().Seq; x != want {
				t.Errorf("P1710: %s, %s: Seq %d, want %d", stage, k.name, x, want)
			}
			if pr := d.node().Progress().Mode; pr != api.ModeIdle {
				t.Errorf("P1710: %s: the engine's mode is %d", stage, pr)
			}
			// And all is well behind it.
			d.deaf = false
			if k.conn == api.StandAlone {
				d.must("P1703", d.connect(0, false))
			}
			d.open()
		}
	}
}

// TestNewLink: a link that is opened again is a new one: it has heard of no peer, and takes one whose sessions begin anew.
func TestNewLink(t *testing.T) {
	for _, lose := range []func(d *desk){(*desk).die, func(d *desk) {
		d.must("", d.disconnect(0))
		d.must("", d.connect(0, false))
	}} {
		d := newDesk(t, resource(), 0)
		d.joins(func(s *api.Self) {})
		lose(d)
		d.session = 5
		d.open()
	}
}

// TestLostOpening: a session that the other side closes ahead of its being open.
func TestLostOpening(t *testing.T) {
	d := newDesk(t, resource(), 0)
	d.must("", d.connect(0, false))
	d.lookUp()
	d.take(0, d.l.Out()[0]) // the node knows the hand's session
	for _, f := range d.way[1] {
		d.hear(f)
	}
	d.way[1] = nil
	d.l.Close()
	frames := d.l.Out()
	d.take(0, frames[len(frames)-1])
	d.is("P1711: closed while Connecting", api.Connecting, api.ErrDown)
	d.lays("P1711", api.FrameOpen)
}

// TestLostPrimary: what a primary does in the order of P1710.
func TestLostPrimary(t *testing.T) {
	d := newDesk(t, resource(), 0)
	d.joins(func(s *api.Self) {})
	d.must("", d.promote(0, false))
	d.exchange()
	d.heard()
	d.must("", d.write(0, 5, 1))
	d.submit(0, api.OpFlush, 0, nil)
	d.must("", d.write(0, 6, 2))
	d.exchange()
	seq, through := d.super().Seq, d.d[0].Counts().Through
	d.answers1("P1715")
	d.l.Close()
	d.exchange()
	d.answers1("P1710", api.Answer{Id: 1}, api.Answer{Id: 2}, api.Answer{Id: 3})
	// The identifiers turn (Seq + 1), the marks are stored, the link is opened (Seq + 2).
	if x, words := d.super(), d.node().store.Stored(); x.Seq != seq+2 || x.Gens.Bitmap != 1024 || !slices.Equal(words, []uint64{0x60}) {
		t.Errorf("P1710: %+v, %v", x, words)
	}
	if c := d.d[0].Counts().Through; c != through+4 { // two blocks are marked one by one
		t.Errorf("P1710: %d writes, want 4", c-through)
	}
	if s := d.status(); s.OutOfSync != 2 || s.Unacked != 0 || s.Pending != 0 {
		t.Errorf("P1710: %+v", s)
	}
	gens := d.node().Gens()
	// Lost once more, they stay.
	d.open()
	d.greets(d.self())
	d.is("P1712", api.SyncSource, api.ErrDown)
	d.die()
	d.gens("P1710", gens)
}

// TestLostTurns: the identifiers turn ahead of the marks, so that a loss of power in between forgets nothing.
func TestLostTurns(t *testing.T) {
	d := newDesk(t, resource(), 0)
	d.joins(func(s *api.Self) {})
	d.must("", d.promote(0, false))
	d.must("", d.write(0, 5, 1))
	d.exchange()
	d.l.Close()
	d.fuse(0, 1, nil)
	for _, f := range d.l.Out() {
		d.take(0, f)
	}
	if d.n[0] != nil {
		t.Fatal("Power: the node is not off")
	}
	if x := superOf(t, d.d[0]); x.Gens.Bitmap != 1024 {
		t.Errorf("P1710: %+v", x)
	}
}

// TestLostSecondary: a secondary's identifiers stay.
func TestLostSecondary(t *testing.T) {
	d := newDesk(t, resource(), 0)
	d.joins(func(s *api.Self) { s.Role = api.Primary })
	d.die()
	d.gens("P1710", api.Gens{Current: 1024})
	d.flags("P1710", api.FlagConsistent)
}

// TestLostLocks: a request's lock is given back, and the client that waited for it goes on ahead of the peer's being gone.
func TestLostLocks(t *testing.T) {
	d := newDesk(t, resource(), 0)
	d.must("", d.promote(0, false))
	d.must("", d.write(0, 1, 9))
	d.joins(func(s *api.Self) {})
	d.answered()
	d.say(api.Packet{Cmd: api.CmdSumRequest, Id: 1, Block: 1, Flags: 1}) // served: it holds extent 0
	d.must("", d.write(0, 2, 3))
	d.submit(0, api.OpRead, 2, nil)
	d.submit(0, api.OpRead, 5, nil)
	d.answers1("P1715: extent 0 is locked", api.Answer{Id: 4, Data: fill(128, 0)})
	d.must("P1704", d.disconnect(0))
	d.answers1("P1710", api.Answer{Id: 3, Data: fill(128, 3)}, api.Answer{Id: 2})
	if s := d.status(); s.Sent != 1 || s.Written != 2 || s.OutOfSync != 2 {
		t.Errorf("P1710: %+v", s)
	}
	d.lays("P1710: no packet is sent", api.FrameClose)
}

// TestGrantedInOrder: what is let in by an acknowledgement goes on in its order.
func TestGrantedInOrder(t *testing.T) {
	d := newDesk(t, resource(), 0)
	d.must("", d.promote(0, false))
	d.must("", d.write(0, 1, 9))
	d.joins(func(s *api.Self) { s.Bits = []uint64{0x0e} })
	d.answered()
	ask := func(id, block uint32) api.Packet {
		return api.Packet{Cmd: api.CmdSumRequest, Id: id, Block: block, Flags: 1}
	}
	data := func(id, block uint32, b byte) api.Packet {
		return api.Packet{Cmd: api.CmdSyncData, Id: id, Block: block, Data: fill(128, b)}
	}
	d.sends("P1713", d.say(ask(1, 1), ask(2, 2)), data(1, 1, 9))
	d.must("", d.write(0, 2, 5)) // waits behind both
	d.submit(0, api.OpRead, 2, nil)
	d.sends("P1713", d.say(ask(3, 3))) // waits behind these
	d.sends("P1713: a request is let in", d.say(packet(api.CmdSyncAck, 1, 1)), data(2, 2, 0))
	d.answers1("P1713")
	d.sends("P1713: operations are let in", d.say(packet(api.CmdSyncAck, 2, 2)), api.Packet{Cmd: api.CmdData, Id: 2, Block: 2, Epoch: 1, Data: fill(128, 5)})
	d.answers1("P1713", api.Answer{Id: 3, Data: fill(128, 5)})
	d.sends("P1713: an operation lets a request in", d.say(packet(api.CmdWriteAck, 2, 2)), data(3, 3, 0))
	d.answers1("P1713", api.Answer{Id: 2})
}

// TestGrantedInTurn: those who come in by another's coming in are told behind those who came in ahead of them.
func TestGrantedInTurn(t *testing.T) {
	d := newDesk(t, with(func(c *api.Config) { c.Blocks, c.Slots = 16, 1 }), 0)
	d.must("", d.promote(0, false))
	d.joins(func(s *api.Self) { s.Bits = []uint64{0x11} })
	d.onDisks(0, func(x *disk.Disk) { x.Spoil(0) })
	ask := func(id, block uint32) api.Packet {
		return api.Packet{Cmd: api.CmdSumRequest, Id: id, Block: block, Flags: 1}
	}
	d.must("", d.write(0, 8, 1))  // takes the one slot
	d.must("", d.write(0, 12, 2)) // waits for it
	d.submit(0, api.OpRead, 1, nil)
	d.submit(0, api.OpRead, 5, nil)
	d.exchange()
	d.heard()
	d.sends("P1713: both wait behind the reads", d.say(ask(1, 0), ask(2, 4)))
	d.must("", d.write(0, 2, 3)) // waits behind the first of them
	d.say(packet(api.CmdWriteAck, 1, 8))
	d.answers1("P1713", api.Answer{Id: 1})
	d.sends("P1713", d.say(api.Packet{Cmd: api.CmdBarrierAck, Epoch: 1, Count: 1}),
		api.Packet{Cmd: api.CmdData, Id: 2, Block: 12, Epoch: 2, Data: fill(128, 2)},
		api.Packet{Cmd: api.CmdNegAck, Id: 1, Flags: uint32(api.ErrMedium)},
		api.Packet{Cmd: api.CmdSyncData, Id: 2, Block: 4, Data: fill(128, 0)},
		api.Packet{Cmd: api.CmdBarrier, Epoch: 2, Count: 1})
	d.answers1("P1713", api.Answer{Id: 3, Data: fill(128, 0)}, api.Answer{Id: 4, Data: fill(128, 0)})
}

// TestTableRoom: the lock table has room for Queue + Ahead waiters.
func TestTableRoom(t *testing.T) {
	c := with(func(c *api.Config) { c.Queue, c.Ahead = 3, 2 })
	d := newDesk(t, c, 0)
	d.joins(func(s *api.Self) { s.Bits = []uint64{1} })
	for id := range uint32(6) {
		got := d.say(api.Packet{Cmd: api.CmdSumRequest, Id: id + 1, Flags: 1})
		if id == 0 != (len(got) == 1) {
			t.Fatalf("P1702: %s", tellPackets(got))
		}
	}
	d.sends("P1702", d.say(api.Packet{Cmd: api.CmdSumRequest, Id: 7, Flags: 1}), api.Packet{Cmd: api.CmdNegAck, Id: 7, Flags: uint32(api.ErrFull)})
}

// TestEngineNumbers: the engines are made with the resource's numbers.
func TestEngineNumbers(t *testing.T) {
	c := with(func(c *api.Config) { c.Blocks, c.Rate, c.Burst, c.Ahead, c.Queue, c.Epoch = 40, 2, 5, 9, 3, 2 })
	d := newDesk(t, c, 0)
	d.joins(func(s *api.Self) { s.Gens, s.Bits = api.Gens{Current: 2000, Bitmap: 1024}, []uint64{1<<40 - 1} })
	d.say(gensOf(api.Gens{Current: 2000, Bitmap: 1024}))
	for _, want := range []int{5, 2, 2, 0} { // burst, rate, rate, ahead
		if got := d.tickNode(); len(got) != want {
			t.Errorf("P1702: %d requests, want %d", len(got), want)
		}
	}
	d = newDesk(t, c, 0)
	d.must("", d.promote(0, false))
	d.meet(false)
	for id := range 4 {
		want := api.OK
		if id == 3 {
			want = api.ErrFull
		}
		d.want("P1715: the queue", d.write(0, id, 1), want)
	}
}

// TestTakeNothing: frames that mean nothing here.
func TestTakeNothing(t *testing.T) {
	d := newDesk(t, resource(), 0)
	other := newDesk(t, resource(), 1)
	other.must("", other.connect(1, false))
	junk := [][]byte{nil, {}, {1}, fill(26, 0), fill(3000, 'R', 'F'), other.way[0][0]}
	for _, stage := range []string{"StandAlone", "Connecting", "Connected"} {
		switch stage {
		case "Connecting":
			d.must("", d.connect(0, false))
			d.way[1] = nil
			junk = junk[:5]
		case "Connected":
			d.must("", d.disconnect(0))
			d.way[1] = nil
			d.joins(func(s *api.Self) {})
		}
		before, image := d.status(), d.d[0].Image()
		for _, b := range junk {
			d.take(0, b)
		}
		if d.status() != before || !slices.Equal(image, d.d[0].Image()) || len(d.way[1]) > 0 {
			t.Errorf("P1711: %s: %+v", stage, d.status())
		}
	}
}

// TestTakeClosed: what comes late, when the node stands alone again.
func TestTakeClosed(t *testing.T) {
	d := newDesk(t, resource(), 0)
	d.joins(func(s *api.Self) {})
	b, _ := wire.EncodePacket(api.Packet{Cmd: api.CmdData, Id: 5, Block: 1, Epoch: 1, Data: fill(128, 3)})
	d.l.Send(b)
	late := d.l.Out()
	d.must("", d.disconnect(0))
	d.way[1] = nil
	for _, f := range late {
		d.take(0, f)
	}
	d.is("P1711", api.StandAlone, api.OK)
	if s := d.status(); s.Received != 0 || len(d.way[1]) > 0 {
		t.Errorf("P1711: %+v", s)
	}
}

// several hands payloads over in one frame's Take: the first one's frame comes last.
func (d *desk) several(payloads ...[]byte) {
	d.t.Helper()
	for _, b := range payloads {
		d.must("the hand sends", d.l.Send(b))
	}
	frames := d.l.Out()
	for _, f := range append(frames[1:], frames[0]) {
		d.take(d.i, f)
	}
}

func bytesOf(p api.Packet) []byte {
	b, _ := wire.EncodePacket(p)
	return b
}

// TestTakeSeveral: the payloads of one Take, in order, until one breaks the rules.
func TestTakeSeveral(t *testing.T) {
	write := func(id uint32) []byte {
		return bytesOf(api.Packet{Cmd: api.CmdData, Id: id, Block: id, Epoch: 1, Data: fill(128, byte(id))})
	}
	d := newDesk(t, resource(), 0)
	d.joins(func(s *api.Self) {})
	d.several(write(1), write(2), bytesOf(stateOf(api.Primary, api.Outdated)), write(3))
	d.exchange()
	d.sends("P1711", d.heard(), packet(api.CmdWriteAck, 1, 1), packet(api.CmdWriteAck, 2, 2), packet(api.CmdWriteAck, 3, 3))
	d.peers("P1711", api.Primary, api.Outdated)
	d.several(write(4), []byte{26}, write(5))
	d.is("P1711", api.StandAlone, api.ErrProto)
	if s := d.status(); s.Received != 4 {
		t.Errorf("P1711: what came behind it is not dropped: %+v", s)
	}
	// What was sent ahead of it is on its way, and then the close.
	d.exchange()
	d.sends("P1711", d.heard(), packet(api.CmdWriteAck, 4, 4))
}

// TestTakeOpens: the link opens by a payload: the greeting begins, and the payload is of it.
func TestTakeOpens(t *testing.T) {
	d := newDesk(t, resource(), 0)
	d.must("", d.connect(0, false))
	d.lookUp()
	d.take(0, d.l.Out()[0])
	for _, f := range d.way[1] {
		d.hear(f)
	}
	d.way[1] = nil
	d.is("P1711", api.Connecting, api.OK)
	d.l.Out() // the hand's acknowledgement is lost
	d.l.Send(bytesOf(api.Packet{Cmd: api.CmdFeature, Id: 86, Count: 90, Flags: 2}))
	d.take(0, d.l.Out()[0])
	d.is("P1711", api.Greeting, api.OK)
	d.exchange()
	d.sends("P1712", d.heard(),
		api.Packet{Cmd: api.CmdFeature, Id: 86, Count: 90}, api.Packet{Cmd: api.CmdSizes, Block: 8, Count: 128, Flags: 3},
		api.Packet{Cmd: api.CmdIds, Gens: api.Gens{Current: 1024}, Flags: 1}, stateOf(api.Secondary, api.UpToDate))
}

// commands: one packet of each command, as it may be taken by somebody.
func commands() []api.Packet {
	return []api.Packet{
		{Cmd: api.CmdFeature, Id: 86, Count: 90},
		{Cmd: api.CmdChallenge, Data: fill(16, 1)},
		{Cmd: api.CmdResponse},
		{Cmd: api.CmdSizes, Block: 8, Count: 128, Flags: 3},
		{Cmd: api.CmdIds},
		{Cmd: api.CmdState, Flags: 8},
		{Cmd: api.CmdBits, Count: 1, Data: []byte{8}},
		{Cmd: api.CmdData, Id: 1, Block: 2, Epoch: 1, Data: fill(128, 1)},
		{Cmd: api.CmdZero, Id: 1, Block: 2, Epoch: 1},
		{Cmd: api.CmdRecvAck, Id: 1, Block: 2},
		{Cmd: api.CmdWriteAck, Id: 1, Block: 2},
		{Cmd: api.CmdNegAck, Id: 1, Block: 2, Flags: 21},
		{Cmd: api.CmdBarrier, Epoch: 1, Count: 1},
		{Cmd: api.CmdBarrierAck, Epoch: 1, Count: 1},
		{Cmd: api.CmdSumRequest, Id: 1, Block: 2, Flags: 1},
		{Cmd: api.CmdInSync, Id: 1, Block: 2},
		{Cmd: api.CmdSyncData, Id: 1, Block: 2, Data: fill(128, 1)},
		{Cmd: api.CmdSyncAck, Id: 1, Block: 2},
		{Cmd: api.CmdSyncDone},
		{Cmd: api.CmdVerifyRequest, Id: 1, Block: 2},
		{Cmd: api.CmdVerifyReply, Id: 1, Block: 0},
		{Cmd: api.CmdVerifyDone},
		{Cmd: api.CmdGens, Gens: api.Gens{Current: 2000, Bitmap: 1024}},
		{Cmd: api.CmdReadRequest, Id: 1, Block: 2},
		{Cmd: api.CmdReadReply, Id: 1, Block: 2, Data: fill(128, 1)},
	}
}

// TestCommands is P1713: every command in every state; those that are taken are told, all others break the rules.
func TestCommands(t *testing.T) {
	backup := []int{api.CmdState, api.CmdData, api.CmdZero, api.CmdReadRequest}
	target := func(d *desk) {
		d.joins(func(s *api.Self) { s.Gens, s.Bits = api.Gens{Current: 2000, Bitmap: 1024}, []uint64{4} })
	}
	running := func(d *desk) {
		target(d)
		d.say(gensOf(api.Gens{Current: 2000, Bitmap: 1024}))
		d.tickNode()
	}
	for _, k := range []struct {
		name  string
		begin func(d *desk)
		conn  int
		taken []int
	}{
		{"Connected", func(d *desk) { d.joins(func(s *api.Self) {}) }, api.Connected, append([]int{api.CmdVerifyRequest, api.CmdVerifyDone}, backup...)},
		{"Connected, Primary", func(d *desk) {
			d.joins(func(s *api.Self) {})
			d.must("", d.promote(0, false))
		}, api.Connected, []int{api.CmdState, api.CmdVerifyRequest, api.CmdVerifyDone}},
		{"a write is sent", func(d *desk) {
			d.joins(func(s *api.Self) {})
			d.must("", d.promote(0, false))
			d.must("", d.write(0, 2, 1))
		}, api.Connected, []int{api.CmdState, api.CmdVerifyRequest, api.CmdVerifyDone, api.CmdWriteAck}},
		{"an epoch is closed", func(d *desk) {
			d.joins(func(s *api.Self) {})
			d.must("", d.promote(0, false))
			d.must("", d.write(0, 2, 1))
			d.submit(0, api.OpFlush, 0, nil)
			d.exchange()
			d.say(packet(api.CmdWriteAck, 1, 2))
		}, api.Connected, []int{api.CmdState, api.CmdVerifyRequest, api.CmdVerifyDone, api.CmdBarrierAck}},
		{"a block is asked for", func(d *desk) {
			d.joins(func(s *api.Self) {})
			d.must("", d.promote(0, false))
			d.d[0].Spoil(2)
			d.submit(0, api.OpRead, 2, nil)
		}, api.Connected, []int{api.CmdState, api.CmdVerifyRequest, api.CmdVerifyDone, api.CmdReadReply}},
		{"a write is taken", func(d *desk) {
			d.joins(func(s *api.Self) {})
			d.say(api.Packet{Cmd: api.CmdZero, Id: 1, Block: 2, Epoch: 1})
		}, api.Connected, append([]int{api.CmdVerifyRequest, api.CmdVerifyDone, api.CmdBarrier}, backup...)},
		{"SyncSource", func(d *desk) { d.joins(func(s *api.Self) { s.Bits = []uint64{4} }) }, api.SyncSource, append([]int{api.CmdSumRequest}, backup...)},
		{"SyncSource, served", func(d *desk) {
			d.joins(func(s *api.Self) { s.Bits = []uint64{4} })
			d.say(api.Packet{Cmd: api.CmdSumRequest, Id: 1, Block: 2, Flags: 1})
		}, api.SyncSource, append([]int{api.CmdSyncAck}, backup...)},
		{"SyncSource, through", func(d *desk) {
			d.joins(func(s *api.Self) { s.Bits = []uint64{4} })
			d.say(api.Packet{Cmd: api.CmdSumRequest, Id: 1, Block: 2, Flags: 1}, packet(api.CmdSyncAck, 1, 2))
		}, api.SyncSource, append([]int{api.CmdSumRequest, api.CmdSyncDone}, backup...)},
		{"SyncSource, Primary", func(d *desk) {
			d.joins(func(s *api.Self) { s.Bits = []uint64{4} })
			d.must("", d.promote(0, false))
		}, api.SyncSource, []int{api.CmdState, api.CmdSumRequest}},
		{"SyncTarget", target, api.SyncTarget, append([]int{api.CmdGens}, backup...)},
		{"SyncTarget, running", running, api.SyncTarget, append([]int{api.CmdInSync, api.CmdSyncData, api.CmdNegAck}, backup...)},
		{"SyncTarget, through", func(d *desk) {
			running(d)
			d.say(packet(api.CmdInSync, 1, 2))
		}, api.SyncTarget, append([]int{api.CmdGens}, backup...)},
		{"VerifySource", func(d *desk) {
			d.joins(func(s *api.Self) {})
			d.must("", d.promote(0, false))
			d.must("", d.verify(0))
			d.tickNode()
		}, api.VerifySource, []int{api.CmdState, api.CmdVerifyReply}},
		{"VerifyTarget", func(d *desk) {
			d.joins(func(s *api.Self) {})
			d.say(api.Packet{Cmd: api.CmdVerifyRequest, Id: 1, Block: 2})
		}, api.VerifyTarget, append([]int{api.CmdVerifyRequest, api.CmdVerifyDone}, backup...)},
	} {
		for _, p := range commands() {
			d := newDesk(t, resource(), 0)
			k.begin(d)
			d.is("P1713: "+k.name, k.conn, api.OK)
			d.exchange()
			data := d.durable(0)
			d.say(p)
			if !slices.Contains(k.taken, p.Cmd) {
				d.is("P1713: "+k.name+": "+tellPackets([]api.Packet{p}), api.StandAlone, api.ErrProto)
				if !slices.Equal(data, d.durable(0)) {
					t.Errorf("P1717: %s: the data have changed", k.name)
				}
			} else if c := d.status().Conn; c < api.Connected || d.node().Why() != api.OK {
				t.Errorf("P1713: %s: %s is not taken (why %d)", k.name, tellPackets([]api.Packet{p}), d.node().Why())
			}
		}
	}
}

// TestGreetingCommands: while greeting every packet is one of the handshake.
func TestGreetingCommands(t *testing.T) {
	for _, p := range commands() {
		d := newDesk(t, resource(), 1)
		d.meet(false)
		d.say(p)
		if p.Cmd == api.CmdFeature {
			d.is("P1712", api.Greeting, api.OK)
		} else {
			d.is("P1712: "+tellPackets([]api.Packet{p}), api.StandAlone, api.ErrProto)
		}
	}
}

// TestState: every State that layer 7 writes.
func TestState(t *testing.T) {
	for _, primary := range []bool{false, true} {
		for role := range 2 {
			for state := range 3 {
				d := newDesk(t, resource(), 0)
				d.joins(func(s *api.Self) {})
				if primary {
					d.must("", d.promote(0, false))
					d.exchange()
					d.heard()
				}
				d.sends("P1713", d.say(stateOf(role, state)))
				if primary && role == api.Primary {
					d.is("P1713: two primaries", api.StandAlone, api.ErrPrimary)
					continue
				}
				d.is("P1713", api.Connected, api.OK)
				d.peers("P1713", role, state)
			}
		}
	}
	d := newDesk(t, resource(), 0)
	d.joins(func(s *api.Self) {})
	d.sayBytes([]byte{6, 0, 0, 0, 12})
	d.is("P1713: no disk's state", api.StandAlone, api.ErrProto)
}

// TestPrimariesCross: two promotions that cross end the connection.
func TestPrimariesCross(t *testing.T) {
	p := newPair(t, resource(), true)
	p.join()
	p.must("P1705", p.promote(0, false))
	p.must("P1705", p.promote(1, false))
	p.rounds(2)
	p.conns("P1713", api.StandAlone, api.StandAlone)
	for i := range 2 {
		if w := p.n[i].Why(); w != api.ErrPrimary {
			t.Errorf("P1713: why %d", w)
		}
		if g := p.n[i].Gens(); g.Bitmap != 1024 {
			t.Errorf("P1710: %v", g)
		}
	}
}

// TestTick is P1714.
func TestTick(t *testing.T) {
	p := newPair(t, resource(), true)
	for range 50 {
		p.tick(0)
	}
	if len(p.way[1]) > 0 || superOf(t, p.d[0]).Seq != 1 {
		t.Error("P1714: a node that stands alone does something")
	}
	p.must("", p.connect(0, false))
	p.way[1] = nil
	for k := 1; k <= 60; k++ {
		p.tick(0)
		if want := k / 3; len(p.way[1]) != want {
			t.Fatalf("P1714: %d frames behind %d ticks, want %d", len(p.way[1]), k, want)
		}
	}
	if s := p.n[0].Status(); s.Conn != api.Connecting || p.n[0].Why() != api.OK {
		t.Errorf("P1714: %+v", s)
	}
	d := newDesk(t, resource(), 0)
	d.joins(func(s *api.Self) {})
	for k := 1; k < d.c.Dead; k++ {
		d.tick(0)
		d.is("P1714", api.Connected, api.OK)
	}
	d.tick(0)
	d.is("P1714", api.Connecting, api.ErrDown)
}

// narrow: a link that holds 30 payloads, two of them in flight.
func narrow() api.Config {
	return with(func(c *api.Config) { c.Window, c.Backlog, c.Ahead, c.Queue, c.Epoch, c.Blocks = 2, 28, 1, 1, 1, 40 })
}

// clog fills the node's link but for room packets.
func (d *desk) clog(room int) {
	d.t.Helper()
	d.deaf = true
	for k := range 30 - room {
		d.l.Send(bytesOf(packet(api.CmdReadRequest, uint32(k+1), 0)))
		for _, f := range d.l.Out() {
			d.take(d.i, f)
		}
	}
	d.is("P1711: the link has room", api.Connected, api.OK)
	d.way[1-d.i] = nil
}

// TestFull: a packet that finds no room loses the connection, at the end of its step.
func TestFull(t *testing.T) {
	ask := bytesOf(packet(api.CmdReadRequest, 77, 0))
	write := bytesOf(api.Packet{Cmd: api.CmdData, Id: 1, Block: 3, Epoch: 1, Data: fill(128, 5)})
	d := newDesk(t, narrow(), 0)
	d.joins(func(s *api.Self) {})
	d.clog(0)
	session := d.super().Seq
	d.several(ask)
	d.is("P1711", api.Connecting, api.ErrFull)
	d.lays("P1710", api.FrameAck, api.FrameClose, api.FrameOpen)
	d.peers("P1710", api.NoRole, api.NoDisk)
	if x := d.super().Seq; x != session+1 {
		t.Errorf("P1710: Seq %d", x)
	}
	// What follows in that step is done, and what it sends is dropped.
	d = newDesk(t, narrow(), 0)
	d.joins(func(s *api.Self) {})
	d.clog(1)
	d.several(ask, write)
	d.is("P1711", api.Connecting, api.ErrFull)
	if d.read(0, 3)[0] != 5 || d.status().Received != 1 {
		t.Error("P1711: the rest of the payloads is not handled")
	}
	// Unless one of them breaks the rules.
	d = newDesk(t, narrow(), 0)
	d.joins(func(s *api.Self) {})
	d.clog(0)
	d.several(ask, []byte{0})
	d.is("P1711", api.StandAlone, api.ErrProto)
	if k := d.kinds(); k[len(k)-1] != api.FrameClose {
		t.Errorf("P1711: %v", k)
	}
}

// TestFullEverywhere: also a call of the operator or of a client, and a Tick, may find no room.
func TestFullEverywhere(t *testing.T) {
	for name, act := range map[string]func(d *desk) api.Errno{
		"Promote": func(d *desk) api.Errno { return d.promote(0, false) },
		"Demote":  func(d *desk) api.Errno { return d.demote(0) },
		"Submit":  func(d *desk) api.Errno { return d.write(0, 3, 1) },
		"Tick":    func(d *desk) api.Errno { d.tick(0); return api.OK },
	} {
		d := newDesk(t, narrow(), 0)
		d.joins(func(s *api.Self) {})
		room := 0
		if name != "Promote" {
			room = 1
		}
		d.clog(room)
		if name != "Promote" {
			d.must("P1705", d.promote(0, false))
		}
		if name == "Tick" {
			d.must("P1707", d.verify(0))
		}
		d.way[1] = nil
		d.must("P1711: "+name, act(d))
		d.is("P1711: "+name, api.Connecting, api.ErrFull)
		if k := d.kinds(); !slices.Equal(k[len(k)-2:], []int{api.FrameClose, api.FrameOpen}) {
			t.Errorf("P1710: %s: %v", name, k)
		}
		if name == "Submit" {
			d.answers1("P1710", api.Answer{Id: 1})
		}
	}
}

// TestSubmit is P1715: the errors of layer 14, and what is answered in the step.
func TestSubmit(t *testing.T) {
	p := newPair(t, resource(), true)
	write := fill(128, 1)
	for _, k := range []struct {
		op   api.Op
		want api.Errno
	}{
		{api.Op{Id: 1, Kind: api.OpRead, Block: 8}, api.ErrRange}, {api.Op{Kind: api.OpRead, Block: 8}, api.ErrArg},
		{api.Op{Id: 1, Kind: 9}, api.ErrArg}, {api.Op{Id: 1, Kind: api.OpWrite, Data: write[1:]}, api.ErrSize},
		{api.Op{Id: 1, Kind: api.OpFlush, Block: 1}, api.ErrArg}, {api.Op{Id: 1, Kind: api.OpWrite, Block: 7, Data: write}, api.OK},
	} {
		if _, e := p.n[1].Submit(k.op); e != api.ErrRole {
			t.Errorf("P1715: at a secondary: %v", e)
		}
		if p.n[0].Status().Role == api.Secondary {
			p.must("", p.promote(0, false))
		}
		o, e := p.n[0].Submit(k.op)
		if e != k.want || len(o.Frames) > 0 || e == api.OK != (len(o.Answers) == 1) {
			t.Errorf("P1715: %+v: %v, %+v", k.op, e, o)
		}
	}
	o, e := p.n[0].Submit(api.Op{Id: 2, Kind: api.OpRead, Block: 7})
	if e != api.OK || len(o.Answers) != 1 || !sameAnswer(o.Answers[0], api.Answer{Id: 2, Data: write}) {
		t.Errorf("P1715: %+v, %v", o, e)
	}
}

// TestTelling is P1716, field by field.
func TestTelling(t *testing.T) {
	d := newDesk(t, with(func(c *api.Config) { c.Protocol, c.Epoch = api.ProtoB, 2 }), 0)
	d.joins(func(s *api.Self) { s.Disk, s.Flags = api.UpToDate, api.FlagConsistent })
	d.must("", d.promote(0, false))
	for k := range 3 { // the second closes an epoch
		d.must("", d.write(0, k+2, 1))
	}
	d.submit(0, api.OpRead, 0, nil)
	d.exchange()
	d.say(packet(api.CmdRecvAck, 1, 2))
	want := api.Status{Conn: api.Connected, Role: api.Primary, Peer: api.Secondary, Disk: api.UpToDate, Pdsk: api.UpToDate, Protocol: api.ProtoB,
		Sent: 3, Written: 3, Read: 1, Logged: 2, Pending: 2, Unacked: 3, Epochs: 1}
	if s := d.status(); s != want {
		t.Errorf("P1716: %+v, want %+v", s, want)
	}
	if c := d.node().Covered(); !slices.Equal(c, []int{0, 1}) {
		t.Errorf("P1716: %v", c)
	}
	d.l.Close()
	d.exchange()
	want = api.Status{Conn: api.Connecting, Role: api.Primary, Peer: api.NoRole, Disk: api.UpToDate, Pdsk: api.NoDisk, Protocol: api.ProtoB,
		Sent: 3, Written: 3, Read: 1, Logged: 2, OutOfSync: 3}
	if s := d.status(); s != want {
		t.Errorf("P1716: %+v, want %+v", s, want)
	}
	if g := d.node().Gens(); g.Bitmap != 1024 || g.Current == 1024 {
		t.Errorf("P1716: %v", g)
	}
	b := newDesk(t, resource(), 1)
	b.joins(func(s *api.Self) { s.Role = api.Primary })
	b.say(api.Packet{Cmd: api.CmdZero, Id: 1, Block: 2, Epoch: 1})
	if s := b.status(); s.Received != 1 || s.Written != 1 || s.Peer != api.Primary {
		t.Errorf("P1716: %+v", s)
	}
}

// TestLastBlock: each block has a lock, also in a last extent that is not full.
func TestLastBlock(t *testing.T) {
	for blocks := 1; blocks <= 9; blocks++ {
		p := newPair(t, with(func(c *api.Config) { c.Blocks = blocks }), true)
		p.must("", p.promote(0, false))
		p.must("P1702: the last block", p.write(0, blocks-1, 1))
		p.join()
	}
}

// TestSpoilt: a block that cannot be read is read at the peer.
func TestSpoilt(t *testing.T) {
	p := newPair(t, resource(), true)
	p.join()
	p.must("", p.promote(0, false))
	p.must("", p.write(0, 3, 6))
	p.submit(0, api.OpFlush, 0, nil)
	p.rounds(6)
	p.answered()
	p.onDisks(0, func(d *disk.Disk) { d.Spoil(3) })
	id, e := p.submit(0, api.OpRead, 3, nil)
	p.must("P1715", e)
	p.rounds(3)
	if a := p.answered(); len(a) != 1 || !sameAnswer(a[0], api.Answer{Id: id, Data: fill(128, 6)}) {
		t.Errorf("P1713: %v", a)
	}
}
