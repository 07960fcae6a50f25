package node

import (
	"slices"
	"testing"

	"replica/api"
	"replica/disk"
	"replica/greet"
)

// row: calls of all kinds at a node and its model, with a hand at the other end that knows the protocol, and keeps to it or not.
type row struct {
	*desk
	dice  dice
	inbox []api.Packet // what the hand has had and not answered
	epoch uint32       // of the writes that the hand sends
	count uint32
	next  uint32
	calm  bool // the hand keeps to the protocol
	old   [][]byte
}

func newRow(t *testing.T, seed int, c api.Config, seen map[string]int) *row {
	t.Helper()
	w := &row{dice: dice(seed)}
	for range 3 {
		w.dice.below(2)
	}
	i := w.dice.below(2)
	w.desk = &desk{pair: newModelled(t, c, w.dice.below(4) > 0, seen), i: i, session: 100}
	w.calm = w.dice.below(2) == 0
	w.lookUp()
	return w
}

func (w *row) block() int { return w.dice.below(w.c.Blocks) }

func (w *row) data() []byte { return fill(w.c.Size, byte(w.dice.below(4))) }

// bits: few, some or all.
func (w *row) bits() []uint64 {
	words := make([]uint64, (w.c.Blocks+63)/64)
	for b := range w.c.Blocks {
		if w.dice.below(4) == 0 {
			words[b/64] |= 1 << (b % 64)
		}
	}
	return words
}

// greeting: what the hand brings, from where it could come.
func (w *row) greeting() api.Self {
	s, own := w.self(), w.node().Gens()
	s.Flags, s.Disk = api.FlagConsistent, api.UpToDate
	switch w.dice.below(10) {
	case 0, 1:
		s.Gens = own
	case 2, 3:
		s.Gens = api.Gens{Current: 1<<40 + uint64(w.dice.below(9)), Bitmap: own.Current}
	case 4, 5:
		s.Gens = api.Gens{Current: own.Bitmap}
		if own.Bitmap == 0 {
			s.Gens = api.Gens{Current: own.Old1}
		}
	case 6:
		s.Gens = api.Gens{Current: api.JustCreated}
		s.Disk, s.Flags = api.Inconsistent, 0
	case 7:
		s.Gens = api.Gens{Current: 1<<41 + 1, Bitmap: own.Bitmap, Old1: own.Current}
	case 8:
		s.Gens = api.Gens{Current: 1<<41 + 2, Bitmap: own.Bitmap}
	default:
		s.Gens = api.Gens{Current: 1 << 42}
	}
	if w.dice.below(6) == 0 {
		s.Flags |= api.FlagCrashed
	}
	if w.dice.below(8) == 0 {
		s.Disk, s.Flags = api.Outdated, s.Flags|api.FlagOutdated
	}
	if w.status().Role == api.Secondary && w.dice.below(2) == 0 || w.dice.below(12) == 0 {
		s.Role = api.Primary
	}
	if w.dice.below(3) > 0 {
		s.Bits = w.bits()
	}
	if w.dice.below(20) == 0 {
		s.Secret = "another"
	}
	return s
}

// meets: the hand looks for the node, and greets it, maybe not to the end.
func (w *row) meets() {
	w.t.Helper()
	w.lookUp()
	w.inbox, w.epoch, w.count = nil, 1, 0
	w.exchange()
	if w.n[w.i] == nil || w.status().Conn != api.Greeting {
		return
	}
	m, e := greet.New(w.greeting())
	w.must("the hand greets", e)
	back, _ := m.Start()
	stop := w.dice.below(60)
	for done := false; !done && e == api.OK && stop > 0; stop-- {
		for _, p := range back {
			w.l.Send(bytesOf(p))
			w.exchange()
		}
		w.inbox = append(w.inbox, w.heard()...)
		if len(w.inbox) == 0 || w.n[w.i] == nil {
			return
		}
		back, done, e = m.Receive(w.inbox[0])
		w.inbox = w.inbox[1:]
		if w.dice.below(20) == 0 {
			w.operate()
		}
		if w.n[w.i] == nil {
			return
		}
	}
}

// tell sends a packet, if the hand's link is open.
func (w *row) tell(p api.Packet) {
	w.t.Helper()
	w.l.Send(bytesOf(p))
	if w.dice.below(3) > 0 {
		w.exchange()
	}
	w.inbox = append(w.inbox, w.heard()...)
}

// reply answers a packet of the node as a peer would.
func (w *row) reply(p api.Packet) {
	w.t.Helper()
	flaw := uint32(0)
	if !w.calm && w.dice.below(12) == 0 {
		flaw = 1
	}
	id, block := p.Id+flaw, p.Block
	switch p.Cmd {
	case api.CmdData, api.CmdZero:
		switch w.c.Protocol {
		case api.ProtoB:
			w.tell(packet(api.CmdRecvAck, id, block))
		case api.ProtoC:
			w.tell(packet(api.CmdWriteAck, id, block))
		}
	case api.CmdBarrier:
		w.tell(api.Packet{Cmd: api.CmdBarrierAck, Epoch: p.Epoch + flaw, Count: p.Count})
	case api.CmdReadRequest:
		w.tell(api.Packet{Cmd: api.CmdReadReply, Id: id, Block: block, Data: w.data()})
	case api.CmdSumRequest:
		switch k := w.dice.below(5); {
		case k < 2 && p.Flags == 0:
			w.tell(packet(api.CmdInSync, id, block))
		case k < 4:
			w.tell(api.Packet{Cmd: api.CmdSyncData, Id: id, Block: block, Data: w.data()})
		default:
			w.tell(api.Packet{Cmd: api.CmdNegAck, Id: id, Block: block, Flags: 21})
		}
	case api.CmdSyncDone:
		w.tell(gensOf(api.Gens{Current: 1<<40 + 3, Old1: 7}))
	case api.CmdInSync, api.CmdSyncData:
		w.tell(packet(api.CmdSyncAck, id, block))
	case api.CmdVerifyRequest:
		w.tell(api.Packet{Cmd: api.CmdVerifyReply, Id: id, Block: block, Flags: uint32(w.dice.below(2))})
	}
}

// initiate says what a peer says of its own accord.
func (w *row) initiate() {
	w.t.Helper()
	s := w.status()
	w.next++
	id, block := w.next, uint32(w.block())
	switch {
	case s.Conn == api.SyncTarget && w.dice.below(3) == 0:
		if !w.calm || w.node().Progress().Mode == api.ModeIdle {
			w.tell(gensOf(api.Gens{Current: 1<<40 + 3, Bitmap: w.node().Gens().Current, Old1: 7}))
		}
	case s.Conn == api.SyncSource && w.dice.below(3) > 0:
		if s.OutOfSync == 0 && w.dice.below(2) == 0 {
			w.tell(api.Packet{Cmd: api.CmdSyncDone, Count: 3})
			return
		}
		if next := w.node().store.Next(int(block)); next >= 0 {
			block = uint32(next)
		}
		p := api.Packet{Cmd: api.CmdSumRequest, Id: id, Block: block, Flags: uint32(w.dice.below(2))}
		w.tell(p)
	case s.Role == api.Secondary && w.dice.below(2) == 0:
		w.asPrimary(id, block)
	case s.Conn == api.Connected && s.Role == api.Secondary, s.Conn == api.VerifyTarget:
		if w.dice.below(4) == 0 {
			w.tell(api.Packet{Cmd: api.CmdVerifyDone})
			return
		}
		w.tell(api.Packet{Cmd: api.CmdVerifyRequest, Id: id, Block: block})
	case w.dice.below(3) == 0:
		w.tell(stateOf(w.dice.below(2), w.dice.one(0, 1, 2, 2, 2)))
	}
}

// asPrimary sends writes in epochs.
func (w *row) asPrimary(id, block uint32) {
	w.t.Helper()
	if w.count > 0 && (int(w.count) == w.c.Epoch || w.dice.below(4) == 0) {
		w.tell(api.Packet{Cmd: api.CmdBarrier, Epoch: w.epoch, Count: w.count})
		w.epoch, w.count = w.epoch+1, 0
		return
	}
	switch w.dice.below(4) {
	case 0:
		w.tell(packet(api.CmdReadRequest, id, block))
	case 1:
		w.count++
		w.tell(api.Packet{Cmd: api.CmdZero, Id: id, Block: block, Epoch: w.epoch})
	default:
		w.count++
		w.tell(api.Packet{Cmd: api.CmdData, Id: id, Block: block, Epoch: w.epoch, Data: w.data()})
	}
}

// wild says any packet, or bytes that are none.
func (w *row) wild() {
	w.t.Helper()
	list := commands()
	p := list[w.dice.below(len(list))]
	if p.Id != 0 && p.Cmd != api.CmdFeature {
		p.Id, p.Block = uint32(1+w.dice.below(4)), uint32(w.dice.below(w.c.Blocks+2))
	}
	if len(p.Data) == 128 {
		p.Data = w.data()
	}
	if w.dice.below(9) == 0 {
		w.l.Send([]byte{byte(w.dice.below(30)), byte(w.dice.below(256))})
		w.exchange()
		return
	}
	w.tell(p)
}

// operate calls the node as its operator does, or as a client.
func (w *row) operate() {
	w.t.Helper()
	i := w.i
	switch k := w.dice.below(24); k {
	case 0, 1, 2:
		w.connect(i, w.dice.below(3) == 0)
	case 3:
		if w.dice.below(3) == 0 {
			w.disconnect(i)
		}
	case 4, 5, 6:
		w.promote(i, w.dice.below(3) == 0)
	case 7:
		w.demote(i)
	case 8, 9:
		w.verify(i)
	case 10:
		w.invalidate(i)
	case 11:
		w.submit(i, w.dice.below(6), w.dice.one(-1, w.c.Blocks, w.block()), w.data()[:w.dice.below(w.c.Size)])
	default:
		kind := w.dice.one(api.OpRead, api.OpWrite, api.OpWrite, api.OpZero, api.OpFlush)
		b, data := w.block(), []byte(nil)
		if kind == api.OpFlush {
			b = 0
		}
		if kind == api.OpWrite {
			data = w.data()
		}
		w.submit(i, kind, b, data)
	}
}

// disaster: power, spoilt blocks, a net that loses.
func (w *row) disaster() {
	w.t.Helper()
	i := w.i
	switch w.dice.below(8) {
	case 0:
		w.crash(i, w.dice.picks())
	case 1, 2:
		w.fuse(i, w.dice.below(12), w.dice.picks())
	case 3:
		b := w.block()
		w.onDisks(i, func(d *disk.Disk) { d.Spoil(b) })
	case 4:
		w.l.Close()
	case 5:
		w.clog()
	case 6:
		w.old = append(w.old, w.l.Out()...) // lost, or late
	default:
		if k := len(w.old); k > 0 {
			w.take(i, w.old[w.dice.below(k)])
		}
	}
}

// clog: the hand hears nothing for a while, and asks for more and more.
func (w *row) clog() {
	w.t.Helper()
	w.deaf = true
	for range 50 {
		if w.n[w.i] == nil {
			break
		}
		w.next++
		if w.status().Role == api.Primary {
			w.operate()
		} else {
			w.tell(packet(api.CmdReadRequest, w.next, uint32(w.block())))
		}
	}
	w.deaf = false
}

func (w *row) event() {
	w.t.Helper()
	if w.n[w.i] == nil {
		w.up(w.i)
		return
	}
	if c := w.status().Conn; c == api.Connecting && w.dice.below(3) == 0 {
		w.meets()
		return
	}
	switch k := w.dice.below(30); {
	case k < 8:
		w.operate()
	case k < 11:
		for range 1 + w.dice.below(4) {
			if w.n[w.i] != nil {
				w.tick(w.i)
			}
		}
		w.exchange()
	case k < 18:
		if len(w.inbox) > 0 {
			at := 0
			if !w.calm && w.dice.below(10) == 0 {
				at = w.dice.below(len(w.inbox))
			}
			p := w.inbox[at]
			w.inbox = slices.Delete(w.inbox, at, at+1)
			w.reply(p)
		}
	case k < 26:
		w.initiate()
	case k < 27:
		if !w.calm {
			w.wild()
		}
	case k < 28:
		if w.dice.below(4) == 0 {
			w.disaster()
		}
	default:
		w.exchange()
	}
	w.inbox = append(w.inbox, w.heard()...)
	w.answered()
}

func rowConfigs() []api.Config {
	list := storyConfigs()
	for _, protocol := range []int{api.ProtoA, api.ProtoB, api.ProtoC} {
		c := narrow()
		c.Protocol, c.Blocks, c.Queue, c.Backlog = protocol, 70, 2, 30
		list = append(list, c)
		c.Sb0, c.Sb1, c.Slots = api.SbLeast, api.SbConsensus, 1
		list = append(list, c)
	}
	return list
}

// TestRows holds a node against its model, whatever comes.
func TestRows(t *testing.T) {
	seen := map[string]int{}
	for seed := range 60 {
		for k, c := range rowConfigs() {
			w := newRow(t, seed*1000+k*10+3, c, seen)
			for range 300 {
				w.event()
			}
		}
	}
	for _, what := range []string{"deal 0", "deal 1", "deal 2", "deal 3", "deal 4", "a source ends", "a target ends", "a verify ends", "full", "force", "outdated",
		"an operation is let in", "a request is let in", "promoted joined", "demoted joined", "turned by a loss",
		"lost by errno 0", "lost by errno 4", "lost by errno 141", "lost by errno 142", "lost by errno 154", "lost by errno 155", "lost by errno 156"} {
		if seen[what] < 3 {
			t.Errorf("the rows have seen %q %d times", what, seen[what])
		}
	}
}
