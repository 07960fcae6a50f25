package node

import (
	"replica/api"
	"replica/wire"
)

// step: what one call has come to so far.
type step struct {
	frames  [][]byte // of links that were replaced
	answers []api.Answer
	full    bool // a packet could not be sent
	lost    bool // the connection is being lost, or has been
}

// do takes one event. One that is refused has changed nothing.
func (n *Node) do(event func() api.Errno) (api.NodeOut, api.Errno) {
	if n.isOff() {
		return api.NodeOut{}, api.ErrOff
	}
	e := event()
	if n.now.full && !n.now.lost {
		n.lose(api.ErrFull)
	}
	if n.isOff() {
		return api.NodeOut{}, api.ErrOff
	}
	out := api.NodeOut{Frames: append(n.now.frames, n.link.Out()...), Answers: n.now.answers}
	n.now = step{}
	return out, e
}

// isOff tells whether the node is without power. Once it is nothing is told or done any more, so nothing is kept.
func (n *Node) isOff() bool {
	if !n.off && !n.disk.On() {
		*n = Node{off: true}
	}
	return n.off
}

// send hands a packet to the link, while there is a connection. Behind one that finds no room none is sent: the peer would miss one in between.
func (n *Node) send(p api.Packet) {
	if n.now.lost || n.now.full {
		return
	}
	b, _ := wire.EncodePacket(p)
	n.now.full = n.link.Send(b) != api.OK
}

func (n *Node) sendAll(packets []api.Packet) {
	for _, p := range packets {
		n.send(p)
	}
}

// sendState tells the peer, if there is one, this node's role and disk.
func (n *Node) sendState() {
	if n.joined() {
		n.send(api.Packet{Cmd: api.CmdState, Flags: uint32(n.role + stateDisk*n.diskState())})
	}
}

func (n *Node) sendGens() { n.send(api.Packet{Cmd: api.CmdGens, Gens: n.gens()}) }

// drive sees to what an engine gave out, and to what comes of it: first come first served, so that locks go on in the order in which they were granted.
func (n *Node) drive(out api.Out) {
	for queue := []api.Out{out}; len(queue) > 0; queue = queue[1:] {
		first := queue[0]
		n.sendAll(first.Packets)
		n.now.answers = append(n.now.answers, first.Answers...)
		for _, owner := range first.Granted {
			queue = append(queue, n.tell(owner))
		}
	}
}

// tell tells an owner that its lock is granted: clients' operations have positive numbers, requests of a resync negative ones. (No run ends by that, unless the power fails.)
func (n *Node) tell(owner int) api.Out {
	if owner > 0 {
		return n.repl.Granted(owner)
	}
	return n.resync.Granted(owner)
}

// driveResync drives what layer 16's engine gave out. If its run has ended, that is seen to first.
func (n *Node) driveResync(out api.Out) {
	if n.resync.Progress().Mode == api.ModeIdle {
		n.endRun()
	}
	n.drive(out)
}
