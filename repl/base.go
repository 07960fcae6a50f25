package repl

import (
	"replica/api"
	"replica/store"
)

// base: what both sides of an engine stand on.
type base struct {
	store        *store.Store
	blocks, size int // the store's layout at New: a store that is down tells none
	protocol     int
	epoch        int // how many writes an epoch may have
	connected    bool
	dead         bool
	tally        tally
	out          api.Out // what the call that is being done has put out so far
}

// tally: what Counts tells.
type tally struct {
	sent, received, written, read int
}

// met hears what the store answered. A store without power does nothing any more, so a call may run on to its end: what it puts out is dropped there.
func (b *base) met(e api.Errno) api.Errno {
	if e == api.ErrPower {
		b.dead = true
	}
	return e
}

func (b *base) flush() { b.met(b.store.Flush()) }

// noteWrite hears what a store.Write or store.Apply answered.
func (b *base) noteWrite(e api.Errno) {
	if b.met(e) == api.OK {
		b.tally.written++
	}
}

// has tells whether the device has the block.
func (b *base) has(block int) bool { return 0 <= block && block < b.blocks }

// ack is the command by which a backup acknowledges a write; 0: it does not.
func (b *base) ack() int {
	switch b.protocol {
	case api.ProtoB:
		return api.CmdRecvAck
	case api.ProtoC:
		return api.CmdWriteAck
	}
	return 0
}

func (b *base) send(p api.Packet) { b.out.Packets = append(b.out.Packets, p) }
