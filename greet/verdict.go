package greet

import (
	"replica/api"
	"replica/ident"
)

// markedRule: both sides' data are of one generation, and yet blocks are marked.
const markedRule = 23

// decide does what the verdict asks for: a resync by the bitmap needs both sides' bitmaps, all else is done.
func (m *Machine) decide() ([]api.Packet, bool, api.Errno) {
	v, e := m.judge()
	if e != api.OK {
		return m.refuse(e)
	}
	m.deal.Verdict = v
	switch v.Kind {
	case api.SourceBits, api.TargetBits:
		return m.goOn(api.CmdBits, m.parts()...)
	case api.SourceFull, api.TargetFull:
		m.bits.SetRange(0, m.bits.Len())
	}
	return m.finish()
}

// judge finds the verdict, seen from this node, or why there is to be none.
func (m *Machine) judge() (api.Verdict, api.Errno) {
	s, peer := m.self, m.deal
	v := ident.Compare(s.Node, s.Gens, s.Flags, peer.Peer, peer.Flags)
	v, e := ident.Settle(v, s.Disk, peer.Disk)
	if e != api.OK {
		return api.Verdict{}, e
	}
	if v.Kind == api.Unrelated {
		return api.Verdict{}, api.ErrUnrelated
	}
	// Resolve has nothing to refuse: New has seen to this node's numbers, layer 7 to the peer's.
	v, _ = ident.Resolve(v, s.Node, s.Sb0, s.Sb1, s.Sb2, s.Role, peer.Role, m.bits.Count(), m.marked, s.Flags, peer.Flags)
	if v.Kind == api.SplitBits || v.Kind == api.SplitFull {
		return api.Verdict{}, api.ErrSplit
	}
	if s.Role == api.Primary && peer.Role == api.Primary {
		return api.Verdict{}, api.ErrPrimary
	}
	v = m.byMarks(v)
	if m.targetRole(v) == api.Primary {
		return api.Verdict{}, api.ErrPrimary
	}
	return v, api.OK
}

// byMarks asks for a resync where the identifiers ask for none but blocks are marked: those were found to differ, or a node has lost its bitmap.
func (m *Machine) byMarks(v api.Verdict) api.Verdict {
	bothGood := m.self.Disk == api.UpToDate && m.deal.Disk == api.UpToDate
	if v.Kind != api.NoSync || !bothGood || m.bits.Count()+m.marked == 0 {
		return v
	}
	if m.self.Role == api.Primary || m.deal.Role == api.Secondary && m.self.Node == 0 {
		return api.Verdict{Kind: api.SourceBits, Rule: markedRule}
	}
	return api.Verdict{Kind: api.TargetBits, Rule: markedRule}
}

// targetRole tells the role of the side whose data a resync writes over; Secondary where there is no resync, for nobody loses anything then.
func (m *Machine) targetRole(v api.Verdict) int {
	switch v.Kind {
	case api.TargetBits, api.TargetFull:
		return m.self.Role
	case api.SourceBits, api.SourceFull:
		return m.deal.Role
	}
	return api.Secondary
}
