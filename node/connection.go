package node

import (
	"replica/api"
	"replica/link"
)

// joined tells whether the handshake has come to its end, and the connection stands.
func (n *Node) joined() bool { return n.conn >= api.Connected }

// newLink gives a closed link. It refuses no numbers of a resource that was checked.
func (n *Node) newLink() *link.Link {
	c := n.config
	l, _ := link.New(c.Window, c.Backlog, c.Resend, c.Dead)
	return l
}

// sessionSpread makes the first payload's number of a session far from that of the one ahead of it.
const sessionSpread = 2654435761

// openLink looks for the peer by a new link. The superblock's number, which grows by the write, names the session: so none is named twice, whatever power is lost.
func (n *Node) openLink() {
	n.write(n.gens(), 0, 0)
	n.now.frames = append(n.now.frames, n.link.Out()...)
	n.link = n.newLink()
	mine := uint32(n.store.Super().Seq%(1<<32-1)) + 1
	n.link.Open(mine, mine*sessionSpread)
	n.conn = api.Connecting
}

// lose ends the connection. Where it was the net that failed it is looked for again.
func (n *Node) lose(why api.Errno) {
	n.now.lost = true
	n.greeting = nil
	switch {
	case n.joined():
		n.leavePeer()
	case n.conn == api.Greeting:
		n.drive(n.repl.Hold(false))
	}
	n.peerRole, n.peerDisk = api.NoRole, api.NoDisk
	n.why = why
	n.link.Close()
	n.conn = api.StandAlone
	if why == api.ErrDown || why == api.ErrFull {
		n.openLink()
	}
}

// leavePeer turns a primary's identifiers ahead of what it goes on to write alone.
func (n *Node) leavePeer() {
	n.drive(n.resync.Stop())
	if n.role == api.Primary && n.gens().Bitmap == 0 {
		n.write(n.turned(), 0, 0)
	}
	n.drive(n.repl.Disconnect())
}

// linkEnded tells whether the link is gone under a connection.
func (n *Node) linkEnded() bool {
	state := n.link.State()
	return n.conn != api.StandAlone && (state == api.LinkDead || state == api.LinkClosed)
}
