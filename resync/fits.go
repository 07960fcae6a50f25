package resync

import (
	"replica/api"
	"replica/wire"
)

// takenIn is the mode in which a command is taken; ModeIdle: in none.
func takenIn(cmd int) int {
	switch cmd {
	case api.CmdSumRequest, api.CmdSyncAck, api.CmdSyncDone:
		return api.ModeSource
	case api.CmdInSync, api.CmdSyncData, api.CmdNegAck:
		return api.ModeTarget
	case api.CmdVerifyReply:
		return api.ModeVerifySource
	case api.CmdVerifyRequest, api.CmdVerifyDone:
		return api.ModeVerifyTarget
	}
	return api.ModeIdle
}

// fits tells whether a packet may come now.
func (e *Engine) fits(p api.Packet) bool {
	if e.mode == api.ModeIdle || takenIn(p.Cmd) != e.mode {
		return false
	}
	if _, err := wire.EncodePacket(p); err != api.OK {
		return false
	}
	switch p.Cmd {
	case api.CmdSyncDone:
		return len(e.run.requests) == 0 && e.store.Marked() == 0
	case api.CmdVerifyDone:
		return true
	}
	return int(p.Block) < e.store.Layout().Blocks && e.fitsRequest(p)
}

// fitsRequest tells whether a packet fits the request that it names.
func (e *Engine) fitsRequest(p api.Packet) bool {
	r, known := e.run.requests[int(p.Id)]
	same := known && r.block == int(p.Block)
	switch p.Cmd {
	case api.CmdSumRequest:
		return !known
	case api.CmdSyncAck:
		return same && !r.waits
	case api.CmdInSync:
		return same && r.hasSum
	case api.CmdSyncData:
		return same && len(p.Data) == e.store.Layout().Size
	case api.CmdNegAck, api.CmdVerifyReply:
		return same
	}
	return true // VerifyRequest: nothing is kept of it
}
