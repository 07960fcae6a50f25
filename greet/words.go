package greet

import (
	"slices"

	"replica/api"
)

const allFlags = api.FlagConsistent | api.FlagOutdated | api.FlagPrimary | api.FlagCrashed | api.FlagDiscard

// canBring tells whether every number that a node brings lies in its domain.
func canBring(self api.Self) bool {
	return isOne(self.Node, 0, 1) &&
		len(self.Secret) <= api.MaxSecret &&
		isDevice(self) &&
		self.Flags <= allFlags &&
		isOne(self.Role, api.Secondary, api.Primary) &&
		isOne(self.Disk, api.Inconsistent, api.Outdated, api.UpToDate) &&
		isOne(self.Sb0, api.SbDisconnect, api.SbZero, api.SbLeast, api.SbNode0, api.SbNode1) &&
		isOne(self.Sb1, api.SbDisconnect, api.SbSecondary, api.SbConsensus) &&
		isOne(self.Sb2, api.SbDisconnect)
}

func isDevice(self api.Self) bool {
	return self.Blocks >= 1 && self.Blocks <= api.MaxBlocks &&
		isOne(self.Size, 128, 256, 512, 1024) &&
		isOne(self.Protocol, api.ProtoA, api.ProtoB, api.ProtoC)
}

func isOne(x int, of ...int) bool { return slices.Contains(of, x) }
