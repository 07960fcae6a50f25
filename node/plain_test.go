package node

import (
	"crypto/sha256"
	"encoding/binary"

	"replica/api"
	"replica/conf"
	"replica/disk"
	"replica/greet"
	"replica/ident"
	"replica/link"
	"replica/locks"
	"replica/repl"
	"replica/resync"
	"replica/store"
	"replica/wire"
)

// plain: a node by the chapter's words, sentence by sentence: every condition is asked, also one that follows from others.
type plain struct {
	d                *disk.Disk
	c                api.Config
	node             int
	s                *store.Store
	r                *repl.Engine
	y                *resync.Engine
	l                *link.Link
	m                *greet.Machine
	conn, role       int
	peer, pdsk       int
	why              api.Errno
	discard, started bool
	off              bool
	frames           [][]byte
	answers          []api.Answer
	refused, losing  bool
	justLost         bool
	seen             map[string]int
}

func newPlain(d *disk.Disk, c api.Config, node int, seen map[string]int) (*plain, api.Errno) {
	if d == nil || node != 0 && node != 1 {
		return nil, api.ErrArg
	}
	if e := conf.Check(c); e != api.OK {
		return nil, e
	}
	s, _, e := store.Open(d)
	if e != api.OK {
		return nil, e
	}
	u := s.Super()
	if u.Blocks != c.Blocks || u.Size != c.Size || u.Slots != c.Slots {
		return nil, api.ErrField
	}
	if u.Flags&api.FlagPrimary != 0 {
		if e := s.SetGens(u.Gens, u.Flags-api.FlagPrimary|api.FlagCrashed); e != api.OK {
			return nil, e
		}
	}
	t, _ := locks.New((c.Blocks+3)/4, c.Queue+c.Ahead)
	n := &plain{d: d, c: c, node: node, s: s, peer: api.NoRole, pdsk: api.NoDisk, seen: seen}
	n.r, _ = repl.New(s, t, c)
	n.y, _ = resync.New(s, t, c.Rate, c.Burst, c.Ahead)
	return n, api.OK
}

func (n *plain) joined() bool {
	switch n.conn {
	case api.Connected, api.SyncSource, api.SyncTarget, api.VerifySource, api.VerifyTarget:
		return true
	}
	return false
}

func (n *plain) disk() int {
	f := n.s.Super().Flags
	if f&api.FlagConsistent == 0 {
		return api.Inconsistent
	}
	if f&api.FlagOutdated != 0 {
		return api.Outdated
	}
	return api.UpToDate
}

// call is one step.
func (n *plain) call(work func() api.Errno) (api.NodeOut, api.Errno) {
	if n.off {
		return api.NodeOut{}, api.ErrOff
	}
	n.frames, n.answers, n.refused, n.losing, n.justLost = nil, nil, false, false, false
	e := work()
	if e == api.OK && n.refused && !n.justLost {
		n.seen["full"]++
		n.lose(api.ErrFull)
	}
	if !n.d.On() {
		n.off = true
		return api.NodeOut{}, api.ErrOff
	}
	if e != api.OK {
		return api.NodeOut{}, e
	}
	if n.l != nil {
		n.frames = append(n.frames, n.l.Out()...)
	}
	return api.NodeOut{Frames: n.frames, Answers: n.answers}, api.OK
}

func (n *plain) send(p api.Packet) {
	if n.losing || n.refused {
		return
	}
	b, e := wire.EncodePacket(p)
	if e != api.OK {
		panic("a packet that layer 7 does not write")
	}
	switch n.l.Send(b) {
	case api.OK:
	case api.ErrFull:
		n.refused = true
	default:
		panic("the link is not open")
	}
}

func (n *plain) drive(o api.Out) {
	queue := []api.Out{o}
	for i := 0; i < len(queue); i++ {
		o := queue[i]
		for _, p := range o.Packets {
			n.send(p)
		}
		n.answers = append(n.answers, o.Answers...)
		for _, owner := range o.Granted {
			if owner > 0 {
				n.seen["an operation is let in"]++
				queue = append(queue, n.r.Granted(owner))
			}
			if owner < 0 {
				n.seen["a request is let in"]++
				o := n.y.Granted(owner)
				n.ends()
				queue = append(queue, o)
			}
		}
	}
}

// ends is P1709.
func (n *plain) ends() {
	if n.y.Progress().Mode != api.ModeIdle || n.losing {
		return
	}
	u := n.s.Super()
	switch n.conn {
	case api.SyncSource:
		n.s.SetGens(ident.EndSource(u.Gens), u.Flags&^api.FlagCrashed&^api.FlagOutdated)
		n.pdsk = api.UpToDate
		n.conn = api.Connected
		n.send(api.Packet{Cmd: api.CmdGens, Gens: n.s.Super().Gens})
		n.seen["a source ends"]++
	case api.VerifySource, api.VerifyTarget:
		n.conn = api.Connected
		n.seen["a verify ends"]++
	}
}

func (n *plain) fresh() uint64 { return ident.Fresh(n.node, n.s.Super().Seq+1) }

func (n *plain) open() {
	u := n.s.Super()
	n.s.SetGens(u.Gens, u.Flags)
	if n.l != nil {
		n.frames = append(n.frames, n.l.Out()...)
	}
	n.l, _ = link.New(n.c.Window, n.c.Backlog, n.c.Resend, n.c.Dead)
	mine := uint64(1) + n.s.Super().Seq%4294967295
	n.l.Open(uint32(mine), uint32(mine*2654435761%4294967296))
	n.conn = api.Connecting
}

func (n *plain) Connect(discard bool) (api.NodeOut, api.Errno) {
	return n.call(func() api.Errno {
		if n.conn != api.StandAlone {
			return api.ErrState
		}
		if discard && n.role == api.Primary {
			return api.ErrRole
		}
		n.why, n.discard = api.OK, discard
		n.open()
		return api.OK
	})
}

func (n *plain) Disconnect() (api.NodeOut, api.Errno) {
	return n.call(func() api.Errno {
		if n.conn == api.StandAlone {
			return api.ErrState
		}
		if n.role == api.Secondary && n.disk() == api.UpToDate && n.joined() && n.conn != api.SyncTarget && n.peer == api.Primary {
			n.seen["outdated"]++
			u := n.s.Super()
			n.s.SetGens(u.Gens, u.Flags|api.FlagOutdated)
		}
		n.lose(api.OK)
		return api.OK
	})
}

func (n *plain) Promote(force bool) (api.NodeOut, api.Errno) {
	return n.call(func() api.Errno {
		if n.role == api.Primary || n.conn == api.Greeting {
			return api.ErrState
		}
		if n.joined() && n.peer == api.Primary {
			return api.ErrPeer
		}
		u := n.s.Super()
		if n.disk() != api.UpToDate {
			if !force || n.conn != api.StandAlone && n.conn != api.Connecting {
				return api.ErrDisk
			}
			u.Flags = (u.Flags | api.FlagConsistent) &^ api.FlagOutdated
			n.seen["force"]++
		}
		u.Flags |= api.FlagPrimary
		if !n.joined() && u.Gens.Bitmap == 0 {
			u.Gens = ident.Rotate(u.Gens, n.fresh())
		}
		n.s.SetGens(u.Gens, u.Flags)
		n.role = api.Primary
		if n.joined() {
			n.seen["promoted joined"]++
			n.send(api.Packet{Cmd: api.CmdState, Flags: uint32(n.role + 4*n.disk())})
		}
		return api.OK
	})
}

func (n *plain) Demote() (api.NodeOut, api.Errno) {
	return n.call(func() api.Errno {
		writes, _ := n.r.Log()
		if n.role == api.Secondary || n.conn == api.Greeting || n.conn == api.VerifySource || n.r.Pending() != 0 || writes != 0 {
			return api.ErrState
		}
		n.s.Flush()
		u := n.s.Super()
		n.s.SetGens(u.Gens, u.Flags&^api.FlagPrimary)
		n.role = api.Secondary
		if n.joined() {
			n.seen["demoted joined"]++
			n.send(api.Packet{Cmd: api.CmdState, Flags: uint32(n.role + 4*n.disk())})
		}
		return api.OK
	})
}

func (n *plain) Verify() (api.NodeOut, api.Errno) {
	return n.call(func() api.Errno {
		if n.role == api.Secondary {
			return api.ErrRole
		}
		if n.conn != api.Connected {
			return api.ErrState
		}
		if n.disk() != api.UpToDate || n.pdsk != api.UpToDate {
			return api.ErrDisk
		}
		n.conn = api.VerifySource
		o, _ := n.y.Start(api.ModeVerifySource)
		n.drive(o)
		return api.OK
	})
}

func (n *plain) Invalidate() (api.NodeOut, api.Errno) {
	return n.call(func() api.Errno {
		if n.role == api.Primary {
			return api.ErrRole
		}
		if n.conn != api.StandAlone {
			return api.ErrState
		}
		words := make([]uint64, (n.c.Blocks+63)/64)
		for b := range n.c.Blocks {
			words[b/64] |= 1 << (b % 64)
		}
		n.s.MarkWords(words)
		u := n.s.Super()
		n.s.SetGens(u.Gens, u.Flags&^api.FlagConsistent)
		return api.OK
	})
}

func (n *plain) Submit(op api.Op) (api.NodeOut, api.Errno) {
	return n.call(func() api.Errno {
		if n.role == api.Secondary {
			return api.ErrRole
		}
		o, e := n.r.Submit(op)
		if e != api.OK {
			return e
		}
		n.drive(o)
		return api.OK
	})
}

// lose is P1710.
func (n *plain) lose(reason api.Errno) {
	n.losing, n.justLost = true, true
	n.m = nil
	if n.joined() {
		n.drive(n.y.Stop())
		if u := n.s.Super(); n.role == api.Primary && u.Gens.Bitmap == 0 {
			n.s.SetGens(ident.Rotate(u.Gens, n.fresh()), u.Flags)
			n.seen["turned by a loss"]++
		}
		n.drive(n.r.Disconnect())
	}
	if n.conn == api.Greeting {
		n.drive(n.r.Hold(false))
	}
	n.peer, n.pdsk = api.NoRole, api.NoDisk
	n.why = reason
	if s := n.l.State(); s != api.LinkDead && s != api.LinkClosed {
		n.l.Close()
	}
	if reason == api.ErrDown || reason == api.ErrFull {
		n.open()
	} else {
		n.conn = api.StandAlone
	}
	n.losing = false
	n.seen["lost by "+reason.Error()]++
}

func (n *plain) gone() bool {
	return n.l != nil && (n.l.State() == api.LinkDead || n.l.State() == api.LinkClosed)
}

func (n *plain) Take(frame []byte) api.NodeOut {
	o, _ := n.call(func() api.Errno {
		if n.l == nil {
			return api.OK
		}
		payloads, _ := n.l.Take(frame)
		if n.conn == api.Connecting && n.l.State() == api.LinkOpen {
			n.greets()
		}
		for _, payload := range payloads {
			if e := n.handle(payload); e != api.OK {
				n.lose(e)
				break
			}
		}
		if n.gone() && n.conn != api.StandAlone && !n.justLost {
			n.lose(api.ErrDown)
		}
		return api.OK
	})
	return o
}

func (n *plain) Tick() api.NodeOut {
	o, _ := n.call(func() api.Errno {
		if n.l == nil {
			return api.OK
		}
		n.l.Tick()
		if n.l.State() == api.LinkDead && n.conn != api.StandAlone {
			n.lose(api.ErrDown)
			return api.OK
		}
		switch {
		case n.conn == api.SyncSource, n.conn == api.SyncTarget && n.started, n.conn == api.VerifySource, n.conn == api.VerifyTarget:
			o := n.y.Tick()
			n.ends()
			n.drive(o)
		}
		return api.OK
	})
	return o
}

func (n *plain) greets() {
	n.conn = api.Greeting
	u := n.s.Super()
	seed := binary.BigEndian.AppendUint64([]byte{byte(n.node)}, u.Seq)
	sum := sha256.Sum256(seed)
	if n.discard {
		u.Flags |= api.FlagDiscard
	}
	n.m, _ = greet.New(api.Self{Node: n.node, Secret: n.c.Secret, Nonce: sum[:16], Blocks: n.c.Blocks, Size: n.c.Size, Protocol: n.c.Protocol,
		Gens: u.Gens, Flags: u.Flags, Role: n.role, Disk: n.disk(), Bits: n.s.Bits(), Sb0: n.c.Sb0, Sb1: n.c.Sb1, Sb2: n.c.Sb2})
	n.drive(n.r.Hold(true))
	list, _ := n.m.Start()
	for _, p := range list {
		n.send(p)
	}
}

func (n *plain) handle(payload []byte) api.Errno {
	p, _, e := wire.DecodePacket(payload)
	if e != api.OK {
		return api.ErrProto
	}
	if n.conn != api.Greeting {
		return n.packet(p)
	}
	list, done, e := n.m.Receive(p)
	for _, q := range list {
		n.send(q)
	}
	if e != api.OK {
		return e
	}
	if done {
		n.deal()
	}
	return api.OK
}

func (n *plain) deal() {
	deal, _ := n.m.Deal()
	n.m = nil
	n.peer, n.pdsk = deal.Role, deal.Disk
	n.seen["deal "+string(rune('0'+deal.Verdict.Kind))]++
	u := n.s.Super()
	switch deal.Verdict.Kind {
	case api.NoSync:
		if u.Flags&api.FlagCrashed != 0 {
			n.s.SetGens(u.Gens, u.Flags-api.FlagCrashed)
		}
		n.discard = false
		n.r.Connect()
		n.conn = api.Connected
	case api.SourceBits, api.SourceFull:
		n.s.MarkWords(deal.Bits)
		n.s.SetGens(ident.BeginSource(u.Gens, n.fresh()), u.Flags)
		n.discard = false
		n.pdsk = api.Inconsistent
		n.r.Connect()
		n.conn = api.SyncSource
		n.send(api.Packet{Cmd: api.CmdGens, Gens: n.s.Super().Gens})
		o, _ := n.y.Start(api.ModeSource)
		n.drive(o)
	case api.TargetBits, api.TargetFull:
		n.s.MarkWords(deal.Bits)
		n.s.SetGens(u.Gens, u.Flags|api.FlagOutdated)
		n.r.Connect()
		n.conn = api.SyncTarget
		n.started = false
	default:
		panic("a deal of another kind")
	}
	n.drive(n.r.Hold(false))
}

// packet is P1713.
func (n *plain) packet(p api.Packet) api.Errno {
	switch p.Cmd {
	case api.CmdState:
		role, disk := p.Flags%4, p.Flags/4
		if role > 1 || disk > 2 {
			return api.ErrProto
		}
		if role == api.Primary && n.role == api.Primary {
			return api.ErrPrimary
		}
		n.peer, n.pdsk = int(role), int(disk)
		return api.OK
	case api.CmdGens:
		return n.gens(p)
	case api.CmdData, api.CmdZero, api.CmdBarrier, api.CmdReadRequest, api.CmdRecvAck, api.CmdWriteAck, api.CmdBarrierAck, api.CmdReadReply:
		asks := p.Cmd == api.CmdData || p.Cmd == api.CmdZero || p.Cmd == api.CmdBarrier || p.Cmd == api.CmdReadRequest
		if asks && n.role == api.Primary {
			return api.ErrProto
		}
		o, e := n.r.Receive(p)
		if e != api.OK {
			return api.ErrProto
		}
		n.drive(o)
		return api.OK
	case api.CmdVerifyRequest, api.CmdVerifyDone:
		if n.conn == api.Connected {
			n.conn = api.VerifyTarget
			o, _ := n.y.Start(api.ModeVerifyTarget)
			n.drive(o)
		}
	case api.CmdSumRequest, api.CmdInSync, api.CmdSyncData, api.CmdSyncAck, api.CmdSyncDone, api.CmdNegAck, api.CmdVerifyReply:
	default:
		return api.ErrProto
	}
	o, e := n.y.Receive(p)
	n.ends()
	if e != api.OK {
		return api.ErrProto
	}
	n.drive(o)
	return api.OK
}

func (n *plain) gens(p api.Packet) api.Errno {
	if n.conn != api.SyncTarget {
		return api.ErrProto
	}
	u := n.s.Super()
	if !n.started {
		n.s.SetGens(ident.BeginTarget(u.Gens, p.Gens), u.Flags&^api.FlagConsistent)
		n.discard = false
		n.started = true
		o, _ := n.y.Start(api.ModeTarget)
		n.drive(o)
		return api.OK
	}
	if n.y.Progress().Mode == api.ModeIdle {
		n.s.SetGens(ident.EndTarget(u.Gens, p.Gens), (u.Flags|api.FlagConsistent)&^api.FlagOutdated&^api.FlagCrashed)
		n.pdsk = api.UpToDate
		n.conn = api.Connected
		n.seen["a target ends"]++
		return api.OK
	}
	return api.ErrProto
}

func (n *plain) Status() api.Status {
	if n.off {
		return api.Status{}
	}
	x := api.Status{Conn: n.conn, Role: n.role, Peer: n.peer, Disk: n.disk(), Pdsk: n.pdsk, Protocol: n.c.Protocol, Logged: n.s.Records(), Pending: n.r.Pending(), OutOfSync: n.s.Marked()}
	x.Sent, x.Received, x.Written, x.Read = n.r.Counts()
	x.Unacked, x.Epochs = n.r.Log()
	return x
}

func (n *plain) Progress() api.Progress {
	if n.off {
		return api.Progress{}
	}
	return n.y.Progress()
}

func (n *plain) Gens() api.Gens {
	if n.off {
		return api.Gens{}
	}
	return n.s.Super().Gens
}

func (n *plain) Covered() []int {
	if n.off {
		return nil
	}
	return n.s.Covered()
}

func (n *plain) Why() api.Errno {
	if n.off {
		return api.OK
	}
	return n.why
}
