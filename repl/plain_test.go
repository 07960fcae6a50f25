package repl

import (
	"bytes"
	"slices"

	"replica/api"
	"replica/locks"
	"replica/store"
)

// plain: an engine by the chapter's words, over a store and a table of its own. It keeps its log as a row of writes and gives up by a panic where the store has no power.
type plain struct {
	s                             *store.Store
	t                             *locks.Table
	c                             api.Config
	l                             api.Layout
	dead, peer, held              bool
	ops                           []plainOp // as they were submitted
	ready                         []int     // ids
	log                           []plainWrite
	open                          int
	epoch, taken                  int
	sent, received, written, read int
	out                           api.Out
	seen                          map[string]int
}

type plainOp struct {
	api.Op
	place byte // W R S A F E
	epoch int
}

type plainWrite struct {
	api.Entry
	acked bool
}

type noPower struct{}

func newPlain(s *store.Store, t *locks.Table, c api.Config, seen map[string]int) *plain {
	return &plain{s: s, t: t, c: c, l: s.Layout(), open: 1, seen: seen}
}

// call does one call; with an error, and without power, nothing is given.
func (p *plain) call(work func() api.Errno) (out api.Out, e api.Errno) {
	if p.dead {
		return api.Out{}, api.ErrPower
	}
	defer func() {
		if r := recover(); r != nil {
			if _, ok := r.(noPower); !ok {
				panic(r)
			}
			p.dead = true
			out, e = api.Out{}, api.ErrPower
		}
	}()
	p.out = api.Out{}
	if e := work(); e != api.OK {
		return api.Out{}, e
	}
	return p.out, api.OK
}

func (p *plain) power(e api.Errno) api.Errno {
	if e == api.ErrPower {
		panic(noPower{})
	}
	return e
}

func (p *plain) note(what string) { p.seen[what]++ }

func (p *plain) at(id int) int {
	return slices.IndexFunc(p.ops, func(o plainOp) bool { return o.Id == id })
}

func (p *plain) Submit(op api.Op) (api.Out, api.Errno) {
	return p.call(func() api.Errno {
		isFlush := op.Kind == api.OpFlush
		if op.Id < 1 || op.Id > 2147483647 {
			return api.ErrArg
		}
		if op.Kind != api.OpRead && op.Kind != api.OpWrite && op.Kind != api.OpZero && !isFlush {
			return api.ErrArg
		}
		if isFlush && op.Block != 0 {
			return api.ErrArg
		}
		if !isFlush && (op.Block < 0 || op.Block >= p.l.Blocks) {
			return api.ErrRange
		}
		if op.Kind == api.OpWrite && len(op.Data) != p.l.Size || op.Kind != api.OpWrite && len(op.Data) > 0 {
			return api.ErrSize
		}
		if p.at(op.Id) >= 0 || slices.ContainsFunc(p.log, func(w plainWrite) bool { return w.Id == op.Id }) {
			return api.ErrTwice
		}
		if len(p.ops) == p.c.Queue {
			return api.ErrFull
		}
		o := plainOp{Op: api.Op{Id: op.Id, Kind: op.Kind, Block: op.Block, Data: slices.Clone(op.Data)}, place: 'F'}
		if !isFlush {
			in, e := p.t.Acquire(op.Block/4, api.Shared, op.Id)
			if e != api.OK {
				p.note("the table refuses")
				return e
			}
			o.place = 'W'
			if in {
				o.place = 'R'
				p.ready = append(p.ready, op.Id)
			}
		}
		p.ops = append(p.ops, o)
		p.goOn()
		return api.OK
	})
}

func (p *plain) Granted(owner int) api.Out {
	out, _ := p.call(func() api.Errno {
		if i := p.at(owner); i >= 0 && p.ops[i].place == 'W' {
			p.note("granted")
			p.ops[i].place = 'R'
			p.ready = append(p.ready, owner)
			p.goOn()
		}
		return api.OK
	})
	return out
}

func (p *plain) Connect() api.Errno {
	_, e := p.call(func() api.Errno {
		if p.peer {
			return api.ErrState
		}
		p.peer, p.epoch, p.taken = true, 1, 0
		return api.OK
	})
	return e
}

func (p *plain) Disconnect() api.Out {
	out, _ := p.call(func() api.Errno {
		if !p.peer {
			return api.OK
		}
		p.peer = false
		lost := p.log
		p.log, p.open = nil, 1
		for _, w := range lost {
			_, e := p.s.Mark(w.Block)
			p.power(e)
			p.power(p.s.End(w.Block))
			p.note("a lost write")
		}
		for _, o := range slices.Clone(p.ops) {
			switch o.place {
			case 'S':
				p.answer(o.Id, api.OK, nil)
			case 'A':
				p.note("a lost read")
				p.answer(o.Id, api.ErrMedium, nil)
			case 'E':
				p.note("a lost flush")
				p.power(p.s.Flush())
				p.answer(o.Id, api.OK, nil)
			}
		}
		p.goOn()
		return api.OK
	})
	return out
}

func (p *plain) Hold(on bool) api.Out {
	out, _ := p.call(func() api.Errno {
		if p.held = on; !on {
			p.goOn()
		}
		return api.OK
	})
	return out
}

func (p *plain) answer(id int, e api.Errno, data []byte) {
	o := p.ops[p.at(id)]
	p.out.Answers = append(p.out.Answers, api.Answer{Id: id, Err: e, Data: data})
	p.ops = slices.DeleteFunc(p.ops, func(o plainOp) bool { return o.Id == id })
	if o.Kind == api.OpRead && e == api.OK {
		p.read++
	}
	if o.Kind == api.OpFlush {
		return
	}
	l, _ := p.t.Release(o.Block/4, id)
	for _, owner := range l {
		if i := p.at(owner); i >= 0 && p.ops[i].place == 'W' {
			p.note("let in by an answer")
			p.ops[i].place = 'R'
			p.ready = append(p.ready, owner)
		} else {
			p.note("another is told")
			p.out.Granted = append(p.out.Granted, owner)
		}
	}
}

func (p *plain) inOpen() int {
	n := 0
	for _, w := range p.log {
		if w.Epoch == p.open {
			n++
		}
	}
	return n
}

func (p *plain) settled(epoch int) bool {
	return !slices.ContainsFunc(p.log, func(w plainWrite) bool { return w.Epoch <= epoch })
}

func (p *plain) closeEpoch() {
	if n := p.inOpen(); n > 0 {
		p.power(p.s.Flush())
		p.out.Packets = append(p.out.Packets, api.Packet{Cmd: api.CmdBarrier, Epoch: uint32(p.open), Count: uint32(n)})
		p.open++
	}
}

func (p *plain) goOn() {
	for !p.held && len(p.ready) > 0 {
		id := p.ready[0]
		if !p.begin(p.ops[p.at(id)]) {
			p.note("stuck")
			break
		}
		p.ready = p.ready[1:]
	}
	for !p.held {
		i := slices.IndexFunc(p.ops, func(o plainOp) bool { return o.place == 'F' })
		if i < 0 || slices.ContainsFunc(p.ops[:i], func(o plainOp) bool { return o.place == 'W' || o.place == 'R' }) {
			break
		}
		p.turn(i)
	}
}

func (p *plain) turn(i int) {
	if !p.peer {
		p.power(p.s.Flush())
		p.answer(p.ops[i].Id, api.OK, nil)
		return
	}
	if p.inOpen() > 0 {
		p.note("a flush closes the epoch")
		p.closeEpoch()
	} else {
		p.note("a flush of no write")
		p.power(p.s.Flush())
	}
	if p.settled(p.open - 1) {
		p.note("a flush with a peer, at once")
		p.answer(p.ops[i].Id, api.OK, nil)
		return
	}
	p.ops[i].place, p.ops[i].epoch = 'E', p.open-1
}

func (p *plain) begin(o plainOp) bool {
	if o.Kind == api.OpRead {
		data, e := p.s.Read(o.Block)
		p.power(e)
		if e == api.ErrMedium && p.peer && p.s.Next(o.Block) != o.Block {
			p.note("the peer is asked")
			p.out.Packets = append(p.out.Packets, api.Packet{Cmd: api.CmdReadRequest, Id: uint32(o.Id), Block: uint32(o.Block)})
			p.ops[p.at(o.Id)].place = 'A'
			return true
		}
		if e != api.OK {
			p.note("the peer is not asked")
		}
		p.answer(o.Id, e, data)
		return true
	}
	data := o.Data
	if o.Kind == api.OpZero {
		data = make([]byte, p.l.Size)
	}
	if !p.peer {
		_, e := p.s.Mark(o.Block)
		p.power(e)
		p.store(p.s.Write(o.Block, data))
		p.answer(o.Id, api.OK, nil)
		return true
	}
	if p.power(p.s.Begin(o.Block)) == api.ErrStarved {
		p.note("starved")
		p.closeEpoch()
		return false
	}
	if len(p.log) == 4*p.c.Epoch {
		p.note("the log is full")
		p.power(p.s.End(o.Block))
		p.closeEpoch()
		return false
	}
	p.log = append(p.log, plainWrite{Entry: api.Entry{Id: o.Id, Block: o.Block, Epoch: p.open}})
	p.store(p.s.Write(o.Block, data))
	p.sent++
	if o.Kind == api.OpZero {
		p.out.Packets = append(p.out.Packets, api.Packet{Cmd: api.CmdZero, Id: uint32(o.Id), Block: uint32(o.Block), Epoch: uint32(p.open)})
	} else {
		p.out.Packets = append(p.out.Packets, api.Packet{Cmd: api.CmdData, Id: uint32(o.Id), Block: uint32(o.Block), Epoch: uint32(p.open), Data: bytes.Clone(data)})
	}
	if p.c.Protocol == api.ProtoA {
		p.answer(o.Id, api.OK, nil)
	} else {
		p.ops[p.at(o.Id)].place = 'S'
	}
	if p.inOpen() == p.c.Epoch {
		p.note("the epoch is full")
		p.closeEpoch()
	}
	return true
}

func (p *plain) store(e api.Errno) {
	if p.power(e) == api.OK {
		p.written++
	}
}

func (p *plain) Receive(k api.Packet) (api.Out, api.Errno) {
	return p.call(func() api.Errno {
		if !p.peer {
			return api.ErrDown
		}
		var e api.Errno
		switch k.Cmd {
		case api.CmdRecvAck:
			e = p.acked(k, api.ProtoB)
		case api.CmdWriteAck:
			e = p.acked(k, api.ProtoC)
		case api.CmdBarrierAck:
			e = p.settle(k)
		case api.CmdReadReply:
			e = p.replied(k)
		case api.CmdData, api.CmdZero:
			e = p.copied(k)
		case api.CmdBarrier:
			if p.taken == 0 || k.Epoch != uint32(p.epoch) || k.Count != uint32(p.taken) {
				return api.ErrProto
			}
			p.note("a barrier")
			p.power(p.s.Flush())
			p.out.Packets = append(p.out.Packets, api.Packet{Cmd: api.CmdBarrierAck, Epoch: k.Epoch, Count: k.Count})
			p.epoch, p.taken = p.epoch+1, 0
		case api.CmdReadRequest:
			if k.Block >= uint32(p.l.Blocks) {
				return api.ErrProto
			}
			data, e := p.s.Read(int(k.Block))
			p.power(e)
			p.note("a read request: " + e.Error())
			p.out.Packets = append(p.out.Packets, api.Packet{Cmd: api.CmdReadReply, Id: k.Id, Block: k.Block, Flags: uint32(e), Data: data})
		default:
			e = api.ErrProto
		}
		return e
	})
}

// find gives the operation at a place of which a packet speaks.
func (p *plain) find(k api.Packet, place byte) int {
	return slices.IndexFunc(p.ops, func(o plainOp) bool {
		return o.place == place && uint32(o.Id) == k.Id && uint32(o.Block) == k.Block
	})
}

func (p *plain) acked(k api.Packet, protocol int) api.Errno {
	i := p.find(k, 'S')
	if p.c.Protocol != protocol || i < 0 {
		return api.ErrProto
	}
	p.note("an ack")
	id := p.ops[i].Id
	for n, w := range p.log {
		if w.Id == id {
			p.log[n].acked = true
		}
	}
	p.answer(id, api.OK, nil)
	p.goOn()
	return api.OK
}

func (p *plain) settle(k api.Packet) api.Errno {
	if len(p.log) == 0 || p.log[0].Epoch == p.open || k.Epoch != uint32(p.log[0].Epoch) {
		return api.ErrProto
	}
	var leave []plainWrite
	for _, w := range p.log {
		if w.Epoch == p.log[0].Epoch {
			leave = append(leave, w)
		}
	}
	if k.Count != uint32(len(leave)) {
		return api.ErrProto
	}
	for _, w := range leave {
		if p.c.Protocol != api.ProtoA && !w.acked {
			p.note("an epoch without all its acks")
			return api.ErrProto
		}
	}
	p.log = slices.Clone(p.log[len(leave):])
	for _, w := range leave {
		p.power(p.s.End(w.Block))
	}
	for _, o := range slices.Clone(p.ops) {
		if o.place == 'E' && p.settled(o.epoch) {
			p.note("a settled flush")
			p.answer(o.Id, api.OK, nil)
		}
	}
	p.goOn()
	return api.OK
}

func (p *plain) replied(k api.Packet) api.Errno {
	i := p.find(k, 'A')
	if i < 0 || k.Flags == 0 && len(k.Data) != p.l.Size {
		return api.ErrProto
	}
	if k.Flags != 0 {
		p.note("a reply without data")
		p.answer(p.ops[i].Id, api.Errno(k.Flags), nil)
	} else {
		p.note("a reply")
		p.answer(p.ops[i].Id, api.OK, slices.Clone(k.Data))
	}
	p.goOn()
	return api.OK
}

func (p *plain) copied(k api.Packet) api.Errno {
	if k.Block >= uint32(p.l.Blocks) || k.Epoch != uint32(p.epoch) || p.taken == p.c.Epoch {
		return api.ErrProto
	}
	data := make([]byte, p.l.Size)
	if k.Cmd == api.CmdData {
		if data = k.Data; len(data) != p.l.Size {
			return api.ErrProto
		}
	}
	p.note("a copy")
	p.store(p.s.Apply(int(k.Block), data))
	p.taken++
	p.received++
	switch p.c.Protocol {
	case api.ProtoB:
		p.out.Packets = append(p.out.Packets, api.Packet{Cmd: api.CmdRecvAck, Id: k.Id, Block: k.Block})
	case api.ProtoC:
		p.out.Packets = append(p.out.Packets, api.Packet{Cmd: api.CmdWriteAck, Id: k.Id, Block: k.Block})
	}
	return api.OK
}

func (p *plain) Connected() bool { return p.peer && !p.dead }

func (p *plain) Pending() int {
	if p.dead {
		return 0
	}
	return len(p.ops)
}

func (p *plain) Log() (int, int) {
	if p.dead {
		return 0, 0
	}
	closed := map[int]int{}
	for _, w := range p.log {
		if w.Epoch < p.open {
			closed[w.Epoch]++
		}
	}
	return len(p.log), len(closed)
}

func (p *plain) Counts() (int, int, int, int) {
	if p.dead {
		return 0, 0, 0, 0
	}
	return p.sent, p.received, p.written, p.read
}
