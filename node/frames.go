package node

import (
	"replica/api"
	"replica/wire"
)

// Take takes a frame from the net.
func (n *Node) Take(frame []byte) api.NodeOut {
	out, _ := n.do(func() api.Errno { return n.hear(frame) })
	return out
}

// Tick lets one tick go by.
func (n *Node) Tick() api.NodeOut {
	out, _ := n.do(n.tick)
	return out
}

func (n *Node) hear(frame []byte) api.Errno {
	payloads, _ := n.link.Take(frame)
	if n.conn == api.Connecting && n.link.State() == api.LinkOpen {
		n.greet()
	}
	for _, payload := range payloads {
		if e := n.handle(payload); e != api.OK {
			n.lose(e)
			return api.OK
		}
	}
	if n.linkEnded() {
		n.lose(api.ErrDown)
	}
	return api.OK
}

// handle does what the peer says, or tells by which error it breaks the rules.
func (n *Node) handle(payload []byte) api.Errno {
	p, _, e := wire.DecodePacket(payload)
	if e != api.OK {
		return api.ErrProto
	}
	if n.conn == api.Greeting {
		return n.takeGreeting(p)
	}
	handler, known := n.handlers[p.Cmd]
	if !known {
		return api.ErrProto
	}
	return handler(p)
}

// tick: an engine without a run has nothing to do.
func (n *Node) tick() api.Errno {
	n.link.Tick()
	if n.linkEnded() {
		n.lose(api.ErrDown)
		return api.OK
	}
	n.driveResync(n.resync.Tick())
	return api.OK
}
