package resync

import (
	"cmp"
	"maps"
	"slices"

	"replica/api"
	"replica/digest"
)

func extentOf(block int) int { return block / api.ExtentBlocks }

// takeSumRequest locks the block's extent against client writes, until the target has acknowledged the answer.
func (e *Engine) takeSumRequest(p api.Packet) api.Errno {
	id, block := int(p.Id), int(p.Block)
	granted, err := e.table.Acquire(extentOf(block), api.Exclusive, -id)
	if err != api.OK {
		e.refuse(id, block, err)
		return api.OK
	}
	e.run.count++
	e.run.requests[id] = request{block: block, hasSum: p.Flags == 0, sum: p.Sum, waits: true, turn: e.run.count}
	if !granted {
		return api.OK
	}
	return e.serve(id)
}

func (e *Engine) refuse(id, block int, why api.Errno) {
	e.send(api.Packet{Cmd: api.CmdNegAck, Id: uint32(id), Block: uint32(block), Flags: uint32(why)})
}

// serve answers a request whose lock is there. What the target is told to be the same, or is sent, is made durable here first.
func (e *Engine) serve(id int) api.Errno {
	r := e.run.requests[id]
	if err := e.settle(r.block); err == api.ErrPower {
		return err
	}
	data, err := e.store.Read(r.block)
	switch {
	case err == api.ErrPower:
		return err
	case err != api.OK:
		e.refuse(id, r.block, err)
		e.letGo(id)
		return api.OK
	case r.hasSum && r.sum == digest.Sum256(data):
		e.send(api.Packet{Cmd: api.CmdInSync, Id: uint32(id), Block: uint32(r.block)})
		e.counts.same++
	default:
		e.send(api.Packet{Cmd: api.CmdSyncData, Id: uint32(id), Block: uint32(r.block), Data: data})
		e.counts.shipped++
	}
	e.run.requests[id] = request{block: r.block, turn: r.turn}
	return api.OK
}

func (e *Engine) takeSyncAck(p api.Packet) api.Errno {
	e.store.Clean(int(p.Block))
	if err := e.countClean(); err == api.ErrPower {
		return err
	}
	e.letGo(int(p.Id))
	return api.OK
}

func (e *Engine) takeSyncDone() api.Errno {
	if err := e.store.Checkpoint(); err == api.ErrPower {
		return err
	}
	e.rest()
	return api.OK
}

// letGo ends a request.
func (e *Engine) letGo(id int) {
	e.unlock(id)
	delete(e.run.requests, id)
}

// unlock gives a request's lock back, or its place in the row.
func (e *Engine) unlock(id int) {
	granted, _ := e.table.Release(extentOf(e.run.requests[id].block), -id)
	e.out.Granted = append(e.out.Granted, granted...)
}

// unlockAll gives all locks back, in the order in which the requests came. Requests that come in by that are gone as well: nobody is told of them.
func (e *Engine) unlockAll() {
	requests := e.run.requests
	ids := slices.SortedFunc(maps.Keys(requests), func(a, b int) int {
		return cmp.Compare(requests[a].turn, requests[b].turn)
	})
	for _, id := range ids {
		e.unlock(id)
	}
	granted := e.out.Granted
	e.out.Granted = nil
	for _, owner := range granted {
		if _, own := requests[-owner]; !own {
			e.out.Granted = append(e.out.Granted, owner)
		}
	}
}
