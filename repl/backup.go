package repl

import "replica/api"

// backup: the side that takes a peer's writes.
type backup struct {
	*base
	current int // the epoch whose writes come now
	taken   int // how many of them have come
}

// startAnew: each peer counts its epochs from 1 on.
func (b *backup) startAnew() { b.current, b.taken = 1, 0 }

func (b *backup) takeWrite(p api.Packet) bool {
	if !b.fits(p) {
		return false
	}
	data := p.Data
	if p.Cmd == api.CmdZero {
		data = make([]byte, b.size)
	}
	b.noteWrite(b.store.Apply(int(p.Block), data))
	b.taken++
	b.tally.received++
	if cmd := b.ack(); cmd != 0 {
		b.send(api.Packet{Cmd: cmd, Id: p.Id, Block: p.Block})
	}
	return true
}

// fits tells whether a Data or Zero may come now.
func (b *backup) fits(p api.Packet) bool {
	if p.Cmd == api.CmdData && len(p.Data) != b.size {
		return false
	}
	return b.has(int(p.Block)) && int(p.Epoch) == b.current && b.taken < b.epoch
}

func (b *backup) takeBarrier(p api.Packet) bool {
	if int(p.Epoch) != b.current || int(p.Count) != b.taken || b.taken == 0 {
		return false
	}
	b.flush()
	b.send(api.Packet{Cmd: api.CmdBarrierAck, Epoch: p.Epoch, Count: p.Count})
	b.current, b.taken = b.current+1, 0
	return true
}

func (b *backup) takeReadRequest(p api.Packet) bool {
	if !b.has(int(p.Block)) {
		return false
	}
	data, e := b.store.Read(int(p.Block))
	b.met(e)
	b.send(api.Packet{Cmd: api.CmdReadReply, Id: p.Id, Block: p.Block, Flags: uint32(e), Data: data})
	return true
}
