package inspect

import (
	"replica/api"
	"replica/bitmap"
	"replica/ident"
)

// markedRule: both sides' data are of one generation, and yet blocks are marked.
const markedRule = 23

// side: what one node brings to the handshake.
type side struct {
	gens   api.Gens
	flags  uint32
	disk   int
	marked int
}

func sideOf(m api.Dump) side {
	bits, _ := bitmap.From(m.Super.Blocks, m.Bits)
	return side{gens: m.Super.Gens, flags: m.Super.Flags, disk: diskState(m.Super.Flags), marked: bits.Count()}
}

// diskState tells what the data are worth.
func diskState(flags uint32) int {
	switch {
	case flags&api.FlagConsistent == 0:
		return api.Inconsistent
	case flags&api.FlagOutdated != 0:
		return api.Outdated
	}
	return api.UpToDate
}

// judge finds the verdict of two nodes, a and b, both secondary, as a (node 0) sees it, and why the handshake is refused. A refusal has the verdict at which it came.
func judge(a, b side, c api.Config) (api.Verdict, api.Errno) {
	compared := ident.Compare(0, a.gens, a.flags, b.gens, b.flags)
	v, e := ident.Settle(compared, a.disk, b.disk)
	if e != api.OK {
		return compared, e
	}
	if v.Kind == api.Unrelated {
		return v, api.ErrUnrelated
	}
	// Resolve has nothing to refuse: the resource was checked.
	v, _ = ident.Resolve(v, 0, c.Sb0, c.Sb1, c.Sb2, api.Secondary, api.Secondary, a.marked, b.marked, a.flags, b.flags)
	if v.Kind == api.SplitBits || v.Kind == api.SplitFull {
		return v, api.ErrSplit
	}
	if v.Kind == api.NoSync && a.disk == api.UpToDate && b.disk == api.UpToDate && a.marked+b.marked > 0 {
		return api.Verdict{Kind: api.SourceBits, Rule: markedRule}, api.OK
	}
	return v, api.OK
}
