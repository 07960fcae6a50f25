package node

import (
	"replica/api"
	"replica/bitmap"
)

// Connect looks for the peer; discard: in a split brain this node's data are given up.
func (n *Node) Connect(discard bool) (api.NodeOut, api.Errno) {
	return n.do(func() api.Errno { return n.connect(discard) })
}

// Disconnect leaves the peer.
func (n *Node) Disconnect() (api.NodeOut, api.Errno) { return n.do(n.disconnect) }

// Promote makes the node primary; force: also where its disk is not up to date and no peer is there.
func (n *Node) Promote(force bool) (api.NodeOut, api.Errno) {
	return n.do(func() api.Errno { return n.promote(force) })
}

// Demote makes the node secondary.
func (n *Node) Demote() (api.NodeOut, api.Errno) { return n.do(n.demote) }

// Verify begins an online verify.
func (n *Node) Verify() (api.NodeOut, api.Errno) { return n.do(n.verify) }

// Invalidate gives this node's data up: every block is marked, and the peer is the source.
func (n *Node) Invalidate() (api.NodeOut, api.Errno) { return n.do(n.invalidate) }

// Submit hands a client's operation over.
func (n *Node) Submit(op api.Op) (api.NodeOut, api.Errno) {
	return n.do(func() api.Errno { return n.submit(op) })
}

func (n *Node) connect(discard bool) api.Errno {
	if n.conn != api.StandAlone {
		return api.ErrState
	}
	if discard && n.role == api.Primary {
		return api.ErrRole
	}
	n.why, n.discard = api.OK, discard
	n.openLink()
	return api.OK
}

func (n *Node) disconnect() api.Errno {
	if n.conn == api.StandAlone {
		return api.ErrState
	}
	// From here on the primary writes without this node. (The target of a resync is not up to date.)
	if n.role == api.Secondary && n.diskState() == api.UpToDate && n.peerRole == api.Primary {
		n.write(n.gens(), api.FlagOutdated, 0)
	}
	n.lose(api.OK)
	return api.OK
}

func (n *Node) promote(force bool) api.Errno {
	alone := n.conn == api.StandAlone || n.conn == api.Connecting
	switch {
	case n.role == api.Primary || n.conn == api.Greeting:
		return api.ErrState
	case n.peerRole == api.Primary:
		return api.ErrPeer
	case n.diskState() != api.UpToDate && !(force && alone):
		return api.ErrDisk
	}
	g := n.gens()
	if alone {
		g = n.turned()
	}
	// A disk that is up to date has the one flag and lacks the other already.
	n.write(g, api.FlagPrimary|api.FlagConsistent, api.FlagOutdated)
	n.role = api.Primary
	n.sendState()
	return api.OK
}

func (n *Node) demote() api.Errno {
	writes, _ := n.repl.Log()
	if n.role == api.Secondary || n.conn == api.Greeting || n.conn == api.VerifySource || n.repl.Pending() > 0 || writes > 0 {
		return api.ErrState
	}
	n.store.Flush()
	n.write(n.gens(), 0, api.FlagPrimary)
	n.role = api.Secondary
	n.sendState()
	return api.OK
}

func (n *Node) verify() api.Errno {
	switch {
	case n.role == api.Secondary:
		return api.ErrRole
	case n.conn != api.Connected:
		return api.ErrState
	case n.diskState() != api.UpToDate || n.peerDisk != api.UpToDate:
		return api.ErrDisk
	}
	n.startRun(api.VerifySource, api.ModeVerifySource)
	return api.OK
}

func (n *Node) invalidate() api.Errno {
	if n.role == api.Primary {
		return api.ErrRole
	}
	if n.conn != api.StandAlone {
		return api.ErrState
	}
	all, _ := bitmap.New(n.config.Blocks)
	all.SetRange(0, n.config.Blocks)
	n.store.MarkWords(all.Words())
	n.write(n.gens(), 0, api.FlagConsistent)
	return api.OK
}

func (n *Node) submit(op api.Op) api.Errno {
	if n.role == api.Secondary {
		return api.ErrRole
	}
	out, e := n.repl.Submit(op)
	n.drive(out)
	return e
}
