package node

import (
	"replica/api"
	"replica/ident"
)

// stateDisk is by what a State's Flags count the disk's state; the role is counted by 1.
const stateDisk = 4

// handlersByCommand: a command that is missing has no place behind the handshake.
func (n *Node) handlersByCommand() map[int]func(p api.Packet) api.Errno {
	return map[int]func(p api.Packet) api.Errno{
		api.CmdState: n.takeState,
		api.CmdGens:  n.takeGens,

		api.CmdData:        n.takeFromPrimary,
		api.CmdZero:        n.takeFromPrimary,
		api.CmdBarrier:     n.takeFromPrimary,
		api.CmdReadRequest: n.takeFromPrimary,
		api.CmdRecvAck:     n.takeRepl,
		api.CmdWriteAck:    n.takeRepl,
		api.CmdBarrierAck:  n.takeRepl,
		api.CmdReadReply:   n.takeRepl,

		api.CmdVerifyRequest: n.takeVerify,
		api.CmdVerifyDone:    n.takeVerify,
		api.CmdVerifyReply:   n.takeResync,
		api.CmdSumRequest:    n.takeResync,
		api.CmdInSync:        n.takeResync,
		api.CmdSyncData:      n.takeResync,
		api.CmdSyncAck:       n.takeResync,
		api.CmdSyncDone:      n.takeResync,
		api.CmdNegAck:        n.takeResync,
	}
}

// takeState: layer 7 reads no State that is not of a role and a disk's state.
func (n *Node) takeState(p api.Packet) api.Errno {
	role, disk := int(p.Flags%stateDisk), int(p.Flags/stateDisk)
	if role == api.Primary && n.role == api.Primary {
		return api.ErrPrimary
	}
	n.peerRole, n.peerDisk = role, disk
	return api.OK
}

// takeGens: the source tells its identifiers as a resync begins, and again when it has noted the end.
func (n *Node) takeGens(p api.Packet) api.Errno {
	switch {
	case n.conn != api.SyncTarget:
		return api.ErrProto
	case !n.started:
		n.write(ident.BeginTarget(n.gens(), p.Gens), 0, api.FlagConsistent)
		n.discard = false
		n.started = true
		n.startRun(api.SyncTarget, api.ModeTarget)
	case n.resync.Progress().Mode == api.ModeIdle:
		n.write(ident.EndTarget(n.gens(), p.Gens), api.FlagConsistent, api.FlagOutdated|api.FlagCrashed)
		n.peerDisk = api.UpToDate
		n.conn = api.Connected
	default:
		return api.ErrProto
	}
	return api.OK
}

// takeFromPrimary takes what a primary alone asks of its backup.
func (n *Node) takeFromPrimary(p api.Packet) api.Errno {
	if n.role == api.Primary {
		return api.ErrProto
	}
	return n.takeRepl(p)
}

func (n *Node) takeRepl(p api.Packet) api.Errno {
	out, e := n.repl.Receive(p)
	if e != api.OK {
		return api.ErrProto
	}
	n.drive(out)
	return api.OK
}

// takeVerify: a verify begins, at its target, with the first that is heard of it.
func (n *Node) takeVerify(p api.Packet) api.Errno {
	if n.conn == api.Connected {
		n.startRun(api.VerifyTarget, api.ModeVerifyTarget)
	}
	return n.takeResync(p)
}

func (n *Node) takeResync(p api.Packet) api.Errno {
	out, e := n.resync.Receive(p)
	if e != api.OK {
		return api.ErrProto
	}
	n.driveResync(out)
	return api.OK
}

// startRun starts layer 16's engine, which is idle, as the connection's state asks for.
func (n *Node) startRun(conn, mode int) {
	n.conn = conn
	out, _ := n.resync.Start(mode)
	n.drive(out)
}

// endRun sees to the end of a run. A target waits for the source's identifiers: until it has them its data are not the source's current ones.
func (n *Node) endRun() {
	switch n.conn {
	case api.SyncSource:
		n.write(ident.EndSource(n.gens()), 0, api.FlagCrashed|api.FlagOutdated)
		n.peerDisk = api.UpToDate
		n.conn = api.Connected
		n.sendGens()
	case api.VerifySource, api.VerifyTarget:
		n.conn = api.Connected
	}
}
