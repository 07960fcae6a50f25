package ident

import "replica/api"

// Who gives its data up in a split brain.
const (
	nobody = iota
	ownSide
	peerSide
)

// party is one side of a split brain.
type party struct {
	role, marked int
	discards     bool
}

// split is a split brain as one of the two nodes sees it.
type split struct {
	own, peer party
	node      int
	sb0, sb1  int
}

// Resolve turns a split brain's verdict into another by the policies: both roles, both numbers of marked blocks, both flags.
func Resolve(v api.Verdict, node int, sb0 int, sb1 int, sb2 int, ownRole int, peerRole int, ownMarked int, peerMarked int, ownFlags uint32, peerFlags uint32) (api.Verdict, api.Errno) {
	if !validKind(v.Kind) || node != 0 && node != 1 || ownMarked < 0 || peerMarked < 0 {
		return api.Verdict{}, api.ErrArg
	}
	if !validPolicies(sb0, sb1, sb2) || !validRole(ownRole) || !validRole(peerRole) {
		return api.Verdict{}, api.ErrPolicy
	}
	if !isSplit(v.Kind) {
		return v, api.OK
	}
	s := split{
		own:  newParty(ownRole, ownMarked, ownFlags),
		peer: newParty(peerRole, peerMarked, peerFlags),
		node: node, sb0: sb0, sb1: sb1,
	}
	loser, rule := s.givesUp()
	if loser == nobody {
		return v, api.OK
	}
	return api.Verdict{Kind: resyncKind(loser == peerSide, isFull(v.Kind)), Rule: rule}, api.OK
}

func newParty(role int, marked int, flags uint32) party {
	return party{role, marked, flags&api.FlagDiscard != 0}
}

// givesUp tells who does, and by which rule: the operator's word goes ahead of the policies.
func (s split) givesUp() (int, int) {
	if loser := s.discarder(); loser != nobody {
		return loser, ruleDiscard
	}
	switch {
	case s.own.role == api.Secondary && s.peer.role == api.Secondary:
		return s.withoutPrimary(), rulePolicy
	case s.own.role != s.peer.role:
		return s.withPrimary(), rulePolicy
	}
	return nobody, rulePolicy
}

// discarder is the side whose operator gave its data up; a primary's clients still lean on them.
func (s split) discarder() int {
	switch {
	case s.own.discards == s.peer.discards:
		return nobody
	case s.own.discards && s.own.role == api.Secondary:
		return ownSide
	case s.peer.discards && s.peer.role == api.Secondary:
		return peerSide
	}
	return nobody
}

// withoutPrimary tells who gives up by the policy for no primary.
func (s split) withoutPrimary() int {
	switch s.sb0 {
	case api.SbZero:
		return s.unchanged()
	case api.SbLeast:
		return s.fewest()
	case api.SbNode0:
		return s.sideOf(0)
	case api.SbNode1:
		return s.sideOf(1)
	}
	return nobody
}

func (s split) unchanged() int {
	switch {
	case s.own.marked == 0 && s.peer.marked != 0:
		return ownSide
	case s.peer.marked == 0 && s.own.marked != 0:
		return peerSide
	}
	return nobody
}

func (s split) fewest() int {
	switch {
	case s.own.marked < s.peer.marked:
		return ownSide
	case s.peer.marked < s.own.marked:
		return peerSide
	}
	return s.sideOf(1)
}

// withPrimary tells whether the secondary gives up by the policy for one primary.
func (s split) withPrimary() int {
	secondary := ownSide
	if s.own.role == api.Primary {
		secondary = peerSide
	}
	switch s.sb1 {
	case api.SbConsensus:
		if s.withoutPrimary() != secondary {
			return nobody
		}
		fallthrough
	case api.SbSecondary:
		return secondary
	}
	return nobody
}

func (s split) sideOf(node int) int {
	if node == s.node {
		return ownSide
	}
	return peerSide
}

func validPolicies(sb0 int, sb1 int, sb2 int) bool {
	return sb0 >= api.SbDisconnect && sb0 <= api.SbNode1 &&
		(sb1 == api.SbDisconnect || sb1 == api.SbSecondary || sb1 == api.SbConsensus) &&
		sb2 == api.SbDisconnect
}

func validRole(role int) bool { return role == api.Secondary || role == api.Primary }
