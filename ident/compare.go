package ident

import "replica/api"

// side is one node's part of what is compared.
type side struct {
	api.Gens
	crashed bool
}

// pair is two nodes as one of them sees them.
type pair struct {
	own, peer side
	first     bool // own is node 0
}

// rule is one line of the table: the question, and the kind if it holds. A rule that speaks of either side asks it of own.
type rule struct {
	number int
	ask    func(pair) bool
	kind   int
}

// rules are looked through in their order: each may lean on those ahead of it not having applied.
func rules() []rule {
	return []rule{
		{1, pair.bothNew, api.NoSync},
		{2, pair.ownNew, api.TargetFull},
		{3, pair.ownCrashed, api.SourceBits},
		{4, pair.bothCrashedOwnFirst, api.SourceBits},
		{5, pair.ownCounts, api.SourceBits},
		{6, pair.noneCounts, api.NoSync},
		{7, pair.sameOwnFirst, api.SourceBits},
		{8, pair.bothFromCurrents, api.SplitBits},
		{9, pair.ownFromCurrent, api.SourceBits},
		{10, pair.bothInPasts, api.SplitFull},
		{11, pair.ownInPast, api.TargetFull},
		{12, pair.sameBitmaps, api.SplitBits},
		{13, pair.shareOlder, api.SplitFull},
		{14, pair.always, api.Unrelated},
	}
}

// Compare tells what our identifiers and the peer's ask for (node: our number; flags: ours and the peer's).
func Compare(node int, own api.Gens, ownFlags uint32, peer api.Gens, peerFlags uint32) api.Verdict {
	p := pair{newSide(own, ownFlags), newSide(peer, peerFlags), node == 0}
	var v api.Verdict
	for _, r := range rules() {
		var found bool
		if v, found = r.verdict(p); found {
			break
		}
	}
	return v
}

// Mirror tells the verdict as the other side sees it.
func Mirror(v api.Verdict) api.Verdict {
	switch v.Kind {
	case api.SourceBits:
		v.Kind = api.TargetBits
	case api.TargetBits:
		v.Kind = api.SourceBits
	case api.SourceFull:
		v.Kind = api.TargetFull
	case api.TargetFull:
		v.Kind = api.SourceFull
	}
	return v
}

// verdict asks the question from both sides, so that each rule is written once and both nodes come to the same.
func (r rule) verdict(p pair) (api.Verdict, bool) {
	v := api.Verdict{Kind: r.kind, Rule: r.number}
	if r.ask(p) {
		return v, true
	}
	if r.ask(p.turned()) {
		return Mirror(v), true
	}
	return api.Verdict{}, false
}

func newSide(g api.Gens, flags uint32) side { return side{g, flags&api.FlagCrashed != 0} }

func (s side) isNew() bool { return isNone(s.Current) }

func (s side) hasInPast(x uint64) bool { return match(x, s.Old1) || match(x, s.Old2) }

// turned is the pair as the peer sees it.
func (p pair) turned() pair { return pair{p.peer, p.own, !p.first} }

func (p pair) bothNew() bool { return p.own.isNew() && p.peer.isNew() }

func (p pair) ownNew() bool { return p.own.isNew() && !p.peer.isNew() }

func (p pair) same() bool { return match(p.own.Current, p.peer.Current) }

func (p pair) ownCrashed() bool { return p.same() && p.own.crashed && !p.peer.crashed }

func (p pair) bothCrashedOwnFirst() bool {
	return p.same() && p.own.crashed && p.peer.crashed && p.first
}

func (p pair) ownCounts() bool { return p.same() && p.own.Bitmap != 0 && p.peer.Bitmap == 0 }

func (p pair) noneCounts() bool { return p.same() && p.own.Bitmap == 0 && p.peer.Bitmap == 0 }

func (p pair) sameOwnFirst() bool { return p.same() && p.first }

func (p pair) bothFromCurrents() bool { return p.ownFromCurrent() && p.turned().ownFromCurrent() }

func (p pair) ownFromCurrent() bool { return match(p.own.Bitmap, p.peer.Current) }

func (p pair) bothInPasts() bool { return p.ownInPast() && p.turned().ownInPast() }

func (p pair) ownInPast() bool { return p.peer.hasInPast(p.own.Current) }

func (p pair) sameBitmaps() bool { return match(p.own.Bitmap, p.peer.Bitmap) }

func (p pair) shareOlder() bool {
	for _, x := range [...]uint64{p.own.Bitmap, p.own.Old1, p.own.Old2} {
		if match(x, p.peer.Bitmap) || p.peer.hasInPast(x) {
			return true
		}
	}
	return false
}

func (p pair) always() bool { return true }
