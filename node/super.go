package node

import (
	"replica/api"
	"replica/ident"
)

func (n *Node) gens() api.Gens { return n.store.Super().Gens }

func (n *Node) hasFlag(flag uint32) bool { return n.store.Super().Flags&flag != 0 }

// write writes identifiers, with the flags of in put in and those of out taken out. A loss of power shows at the end of the step.
func (n *Node) write(g api.Gens, in, out uint32) api.Errno {
	return n.store.SetGens(g, n.store.Super().Flags&^out|in)
}

// fresh makes an identifier, just ahead of the write that gives the superblock its number: so none is made twice.
func (n *Node) fresh() uint64 { return ident.Fresh(n.number, n.store.Super().Seq+1) }

// turned gives the identifiers with which a primary goes on without its peer. Those that count from a bitmap already have turned.
func (n *Node) turned() api.Gens {
	g := n.gens()
	if g.Bitmap != 0 {
		return g
	}
	return ident.Rotate(g, n.fresh())
}

// diskState tells what the data are worth.
func (n *Node) diskState() int {
	switch {
	case !n.hasFlag(api.FlagConsistent):
		return api.Inconsistent
	case n.hasFlag(api.FlagOutdated):
		return api.Outdated
	}
	return api.UpToDate
}
