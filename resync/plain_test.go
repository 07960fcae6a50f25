package resync

import (
	"crypto/sha256"
	"slices"
	"strconv"

	"replica/api"
	"replica/locks"
	"replica/store"
	"replica/wire"
)

// plain: an engine by the chapter's words, in the plainest way: a list of requests as they came, tokens and a walk as a number and a list.
type plain struct {
	s                  *store.Store
	t                  *locks.Table
	rate, burst, ahead int
	mode               int
	tokens             int
	walk               []int
	asked              []plainRequest
	lastId             uint32
	cleans             int
	shipped            int
	same               int
	found              int
	out                api.Out
	seen               map[string]int
}

type plainRequest struct {
	id, block uint32
	flags     uint32
	sum       [32]byte
	waits     bool
}

// noPower ends a call of the model.
type noPower struct{}

func newPlain(s *store.Store, t *locks.Table, x shape, seen map[string]int) *plain {
	return &plain{s: s, t: t, rate: x.rate, burst: x.burst, ahead: x.ahead, seen: seen}
}

// call: the power ends it wherever it is.
func (p *plain) call(work func() api.Errno) (out api.Out, e api.Errno) {
	p.out = api.Out{}
	defer func() {
		if r := recover(); r != nil {
			if r != any(noPower{}) {
				panic(r)
			}
			p.note("the power")
			p.mode, p.asked = 0, nil
			out, e = api.Out{}, api.ErrPower
		}
	}()
	if e := work(); e != api.OK {
		return api.Out{}, e
	}
	return p.out, api.OK
}

func (p *plain) note(what string) { p.seen[what]++ }

func (p *plain) power(e api.Errno) api.Errno {
	if e == api.ErrPower {
		panic(noPower{})
	}
	return e
}

func (p *plain) give(q api.Packet) { p.out.Packets = append(p.out.Packets, q) }

func (p *plain) bit(words []uint64, b int) bool { return words[b/64]>>(b%64)&1 == 1 }

// round: the marked blocks from Mark on, then those ahead of it.
func (p *plain) round() []int {
	var list []int
	n, mark, words := p.s.Layout().Blocks, p.s.Super().Mark, p.s.Bits()
	for i := range n {
		if b := (mark + i) % n; p.bit(words, b) {
			list = append(list, b)
		}
	}
	return list
}

func (p *plain) Start(mode int) (api.Out, api.Errno) {
	return p.call(func() api.Errno {
		if mode != 1 && mode != 2 && mode != 3 && mode != 4 {
			return api.ErrArg
		}
		if p.mode != 0 {
			return api.ErrState
		}
		p.mode, p.asked, p.lastId, p.cleans = mode, nil, 0, 0
		p.shipped, p.same, p.found = 0, 0, 0
		p.tokens, p.walk = p.burst, nil
		if mode == api.ModeTarget {
			p.walk = p.round()
			p.end()
		}
		if mode == api.ModeVerifySource {
			for b := range p.s.Layout().Blocks {
				p.walk = append(p.walk, b)
			}
		}
		return api.OK
	})
}

func (p *plain) at(id uint32) int {
	return slices.IndexFunc(p.asked, func(r plainRequest) bool { return r.id == id })
}

func (p *plain) drop(id uint32) {
	p.asked = slices.DeleteFunc(p.asked, func(r plainRequest) bool { return r.id == id })
}

// checkpoint: an error but ErrPower is passed over.
func (p *plain) checkpoint() {
	if p.power(p.s.Checkpoint()) != api.OK {
		p.note("a Checkpoint refused")
	}
}

func (p *plain) countClean() {
	p.cleans++
	if p.cleans%16 == 0 {
		p.note("the 16th clean")
		p.note("the 16th clean of mode " + strconv.Itoa(p.mode))
		p.checkpoint()
	}
}

func (p *plain) clean(block uint32) {
	was, e := p.s.Clean(int(block))
	p.power(e)
	if !was {
		p.note("cleaned unmarked")
	}
}

func (p *plain) mark(block uint32) {
	_, e := p.s.Mark(int(block))
	p.power(e)
}

func (p *plain) flush(block uint32) {
	if p.s.Waiting(int(block)) > 0 {
		p.note("a Flush")
		p.power(p.s.Flush())
	}
}

// read gives the block, and whether it could be read.
func (p *plain) read(block int) ([]byte, api.Errno) {
	b, e := p.s.Read(block)
	if p.power(e) != api.OK {
		p.note("unreadable")
	}
	return b, e
}

// end: P1608.
func (p *plain) end() {
	if p.s.Marked() == 0 && len(p.asked) == 0 {
		p.checkpoint()
		p.give(api.Packet{Cmd: api.CmdSyncDone, Count: uint32(p.shipped)})
		p.note("SyncDone given")
		p.mode = 0
	}
}

// fits: P1603, and what each packet's promise says of it.
func (p *plain) fits(q api.Packet) bool {
	if _, e := wire.EncodePacket(q); e != api.OK {
		p.note("not as layer 7 writes it")
		return false
	}
	if !slices.Contains(taken[p.mode], q.Cmd) {
		p.note("not of this mode")
		return false
	}
	if q.Cmd == api.CmdVerifyDone {
		return true
	}
	if q.Cmd == api.CmdSyncDone {
		return len(p.asked) == 0 && p.s.Marked() == 0
	}
	if q.Block >= uint32(p.s.Layout().Blocks) {
		p.note("no block of the store")
		return false
	}
	i := p.at(q.Id)
	switch q.Cmd {
	case api.CmdVerifyRequest:
		return true
	case api.CmdSumRequest:
		return i < 0
	}
	if i < 0 || p.asked[i].block != q.Block {
		p.note("no such request")
		return false
	}
	switch q.Cmd {
	case api.CmdInSync:
		return p.asked[i].flags == 0
	case api.CmdSyncData:
		return len(q.Data) == p.s.Layout().Size
	case api.CmdSyncAck:
		return !p.asked[i].waits
	}
	return true
}

func (p *plain) Receive(q api.Packet) (api.Out, api.Errno) {
	return p.call(func() api.Errno {
		if !p.fits(q) {
			p.note("does not fit: " + name(q.Cmd))
			return api.ErrProto
		}
		p.note("fits: " + name(q.Cmd))
		ack := api.Packet{Cmd: api.CmdSyncAck, Id: q.Id, Block: q.Block}
		switch q.Cmd {
		case api.CmdInSync:
			p.drop(q.Id)
			p.flush(q.Block)
			p.clean(q.Block)
			p.same++
			p.countClean()
			p.give(ack)
			p.end()
		case api.CmdSyncData:
			p.drop(q.Id)
			p.power(p.s.Through(int(q.Block), q.Data))
			p.clean(q.Block)
			p.shipped++
			p.countClean()
			p.give(ack)
			p.end()
		case api.CmdNegAck:
			p.drop(q.Id)
			p.end()
		case api.CmdSumRequest:
			p.request(q)
		case api.CmdSyncAck:
			p.clean(q.Block)
			p.countClean()
			p.drop(q.Id)
			p.back(q.Id, q.Block)
		case api.CmdSyncDone:
			p.checkpoint()
			p.mode = 0
		default:
			p.verify(q)
		}
		return api.OK
	})
}

func name(cmd int) string {
	n, _ := wire.Name(cmd)
	return n
}

func (p *plain) request(q api.Packet) {
	in, e := p.t.Acquire(int(q.Block/4), api.Exclusive, -int(q.Id))
	if e != api.OK {
		p.note("the table refuses: " + e.Error())
		p.give(api.Packet{Cmd: api.CmdNegAck, Id: q.Id, Block: q.Block, Flags: uint32(e)})
		return
	}
	p.asked = append(p.asked, plainRequest{id: q.Id, block: q.Block, flags: q.Flags, sum: q.Sum, waits: !in})
	if in {
		p.serve(q.Id)
	} else {
		p.note("it waits")
	}
}

func (p *plain) back(id, block uint32) {
	l, e := p.t.Release(int(block/4), -int(id))
	if e != api.OK {
		p.note("its lock was gone")
	}
	if len(l) > 0 {
		p.note("granted by a lock given back")
	}
	p.out.Granted = append(p.out.Granted, l...)
}

func (p *plain) serve(id uint32) {
	r := &p.asked[p.at(id)]
	r.waits = false
	p.flush(r.block)
	b, e := p.read(int(r.block))
	switch {
	case e != api.OK:
		p.give(api.Packet{Cmd: api.CmdNegAck, Id: id, Block: r.block, Flags: uint32(e)})
		block := r.block
		p.drop(id)
		p.back(id, block)
	case r.flags == 0 && sha256.Sum256(b) == r.sum:
		p.note("served: InSync")
		p.give(api.Packet{Cmd: api.CmdInSync, Id: id, Block: r.block})
		p.same++
	default:
		p.note("served: SyncData")
		p.give(api.Packet{Cmd: api.CmdSyncData, Id: id, Block: r.block, Data: b})
		p.shipped++
	}
}

func (p *plain) verify(q api.Packet) {
	switch q.Cmd {
	case api.CmdVerifyReply:
		p.drop(q.Id)
		if q.Flags == 1 {
			p.mark(q.Block)
			p.found++
		} else {
			p.same++
		}
		p.endVerify()
	case api.CmdVerifyRequest:
		b, e := p.read(int(q.Block))
		flags := uint32(1)
		if e == api.OK && sha256.Sum256(b) == q.Sum {
			p.same++
			flags = 0
		} else {
			p.mark(q.Block)
			p.found++
		}
		p.give(api.Packet{Cmd: api.CmdVerifyReply, Id: q.Id, Block: q.Block, Flags: flags})
	case api.CmdVerifyDone:
		p.mode = 0
	}
}

func (p *plain) endVerify() {
	if len(p.walk) == 0 && len(p.asked) == 0 {
		p.give(api.Packet{Cmd: api.CmdVerifyDone, Count: uint32(p.found)})
		p.note("VerifyDone given")
		p.mode = 0
	}
}

func (p *plain) Granted(owner int) api.Out {
	out, _ := p.call(func() api.Errno {
		for _, r := range p.asked {
			if p.mode == api.ModeSource && r.waits && owner == -int(r.id) {
				p.note("granted")
				p.serve(r.id)
				break
			}
		}
		return api.OK
	})
	return out
}

func (p *plain) Tick() api.Out {
	out, _ := p.call(func() api.Errno {
		switch p.mode {
		case api.ModeTarget:
			p.tickTarget()
		case api.ModeVerifySource:
			p.tickVerify()
		}
		return api.OK
	})
	return out
}

// token: a Take(1).
func (p *plain) token() bool {
	if p.tokens == 0 {
		p.note("the pace refuses")
		return false
	}
	p.tokens--
	return true
}

func (p *plain) next() int {
	b := p.walk[0]
	p.walk = p.walk[1:]
	return b
}

func (p *plain) tickTarget() {
	p.tokens = min(p.tokens+p.rate, p.burst)
	for {
		if len(p.asked) == p.ahead {
			p.note("ahead are in flight")
			break
		}
		if len(p.walk) == 0 && (len(p.asked) > 0 || p.s.Marked() == 0) {
			p.note("the walk is through")
			break
		}
		if len(p.walk) == 0 {
			p.note("begun anew")
			p.walk = p.round()
		}
		if !p.token() {
			break
		}
		block := p.next()
		b, e := p.read(block)
		r := plainRequest{block: uint32(block)}
		if e != api.OK {
			r.flags = 1
		} else {
			r.sum = sha256.Sum256(b)
		}
		p.lastId++
		r.id = p.lastId
		p.asked = append(p.asked, r)
		p.give(api.Packet{Cmd: api.CmdSumRequest, Id: r.id, Block: r.block, Flags: r.flags, Sum: r.sum})
	}
	p.end()
}

func (p *plain) tickVerify() {
	p.tokens = min(p.tokens+p.rate, p.burst)
	for len(p.asked) < p.ahead && len(p.walk) > 0 && p.token() {
		block := p.next()
		b, e := p.read(block)
		if e != api.OK {
			p.mark(uint32(block))
			p.found++
			continue
		}
		p.lastId++
		r := plainRequest{id: p.lastId, block: uint32(block), sum: sha256.Sum256(b)}
		p.asked = append(p.asked, r)
		p.give(api.Packet{Cmd: api.CmdVerifyRequest, Id: r.id, Block: r.block, Sum: r.sum})
	}
	p.endVerify()
}

func (p *plain) Stop() api.Out {
	out, _ := p.call(func() api.Errno {
		if p.mode == api.ModeSource {
			for _, r := range p.asked {
				p.back(r.id, r.block)
			}
			all := p.out.Granted
			p.out.Granted = nil
			for _, owner := range all {
				if slices.ContainsFunc(p.asked, func(r plainRequest) bool { return owner == -int(r.id) }) {
					p.note("left out")
				} else {
					p.out.Granted = append(p.out.Granted, owner)
				}
			}
		}
		p.mode, p.asked = 0, nil
		return api.OK
	})
	return out
}

func (p *plain) Progress() api.Progress {
	v := api.Progress{Shipped: p.shipped, Same: p.same, Found: p.found}
	switch v.Mode = p.mode; p.mode {
	case api.ModeSource, api.ModeTarget:
		v.Left, v.Flight = p.s.Marked(), len(p.asked)
	case api.ModeVerifySource:
		v.Left, v.Flight = len(p.walk), len(p.asked)
	}
	return v
}
