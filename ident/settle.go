package ident

import "replica/api"

// The rules of verdicts that Compare did not find.
const (
	ruleDisks   = 20
	ruleDiscard = 21
	rulePolicy  = 22
)

// Settle turns a verdict by the states of the two disks.
func Settle(v api.Verdict, ownDisk int, peerDisk int) (api.Verdict, api.Errno) {
	if !validKind(v.Kind) {
		return api.Verdict{}, api.ErrArg
	}
	if !validDisk(ownDisk) || !validDisk(peerDisk) {
		return api.Verdict{}, api.ErrPolicy
	}
	if v.Kind == api.Unrelated {
		return v, api.OK
	}
	ownBad, peerBad := ownDisk == api.Inconsistent, peerDisk == api.Inconsistent
	switch {
	case ownBad && peerBad:
		return settleWorthless(v)
	case ownBad || peerBad:
		return settleSource(v, peerBad), api.OK
	case v.Kind == api.NoSync && ownDisk != peerDisk:
		return settleSource(v, peerDisk == api.Outdated), api.OK
	}
	return v, api.OK
}

// settleWorthless lets pass what brings no data over: neither disk's are worth it.
func settleWorthless(v api.Verdict) (api.Verdict, api.Errno) {
	if v.Kind == api.NoSync || isSplit(v.Kind) {
		return v, api.OK
	}
	return api.Verdict{}, api.ErrDisk
}

// settleSource makes one side the source; a verdict that says so already keeps the rule that found it.
func settleSource(v api.Verdict, own bool) api.Verdict {
	kind := resyncKind(own, isFull(v.Kind))
	if v.Kind == kind {
		return v
	}
	return api.Verdict{Kind: kind, Rule: ruleDisks}
}

// resyncKind tells the kind of a resync whose source is the own side or the peer.
func resyncKind(own bool, full bool) int {
	switch {
	case own && full:
		return api.SourceFull
	case own:
		return api.SourceBits
	case full:
		return api.TargetFull
	}
	return api.TargetBits
}

func validKind(kind int) bool { return kind >= api.NoSync && kind <= api.Unrelated }

func validDisk(state int) bool { return state >= api.Inconsistent && state <= api.UpToDate }

func isSplit(kind int) bool { return kind == api.SplitBits || kind == api.SplitFull }

func isFull(kind int) bool {
	return kind == api.SourceFull || kind == api.TargetFull || kind == api.SplitFull
}
