package resync

import (
	"replica/api"
	"replica/digest"
	"replica/walk"
)

// walkMarked gives a walk over the marked blocks, from where the last checkpoint saw the first of them.
func (e *Engine) walkMarked() *walk.Walker {
	return walkOver(e.store.Layout().Blocks, e.store.Bits(), e.store.Super().Mark)
}

// walkOver: there is no walk over the no blocks of a store that is down. One over a clear bit stands for it.
func walkOver(blocks int, words []uint64, start int) *walk.Walker {
	w, err := walk.New(blocks, words, start)
	if err != api.OK {
		w, _ = walk.New(1, []uint64{0}, 0)
	}
	return w
}

func (e *Engine) tickTarget() api.Errno {
	e.run.pace.Tick()
	if err := e.askOn(e.askMarked); err == api.ErrPower {
		return err
	}
	return e.endTarget()
}

// askOn asks for the walk's next blocks. The walk's iterator takes a block from the walk as it gives it: so the loop is left ahead of a block for which there is no room or no token.
func (e *Engine) askOn(ask func(block int) api.Errno) api.Errno {
	if !e.mayAsk() {
		return api.OK
	}
	for block := range e.run.walk.Rest() {
		if err := ask(block); err == api.ErrPower {
			return err
		}
		if !e.mayAsk() {
			break
		}
	}
	return api.OK
}

// mayAsk tells whether a block is asked for next, and takes its token: last of all, so that none is lost where there is no block.
func (e *Engine) mayAsk() bool {
	return len(e.run.requests) < e.ahead && e.hasNext() && e.run.pace.Take(1)
}

// hasNext tells whether the walk has a block. A target goes round again for blocks that were refused or marked meanwhile, but not while an answer of this round may come.
func (e *Engine) hasNext() bool {
	if e.mode == api.ModeTarget && e.run.walk.Left() == 0 && len(e.run.requests) == 0 {
		e.run.walk = e.walkMarked()
	}
	return e.run.walk.Left() > 0
}

// askMarked: of a block that cannot be read there is no digest; the source ships it, whatever it is.
func (e *Engine) askMarked(block int) api.Errno {
	data, err := e.store.Read(block)
	if err == api.ErrPower {
		return err
	}
	p := api.Packet{Cmd: api.CmdSumRequest, Block: uint32(block), Flags: 1}
	if err == api.OK {
		p.Flags, p.Sum = 0, digest.Sum256(data)
	}
	e.sendRequest(p)
	return api.OK
}

// sendRequest sends a request under the next Id.
func (e *Engine) sendRequest(p api.Packet) {
	e.run.count++
	p.Id = uint32(e.run.count)
	e.run.requests[e.run.count] = request{block: int(p.Block), hasSum: p.Flags == 0}
	e.send(p)
}

func (e *Engine) takeInSync(p api.Packet) api.Errno {
	delete(e.run.requests, int(p.Id))
	if err := e.settle(int(p.Block)); err == api.ErrPower {
		return err
	}
	return e.cleanTarget(p, &e.counts.same)
}

func (e *Engine) takeSyncData(p api.Packet) api.Errno {
	delete(e.run.requests, int(p.Id))
	if err := e.store.Through(int(p.Block), p.Data); err == api.ErrPower {
		return err
	}
	return e.cleanTarget(p, &e.counts.shipped)
}

// cleanTarget: the block is as the source's, durably; one more of that count.
func (e *Engine) cleanTarget(p api.Packet, count *int) api.Errno {
	e.store.Clean(int(p.Block))
	*count++
	if err := e.countClean(); err == api.ErrPower {
		return err
	}
	e.send(api.Packet{Cmd: api.CmdSyncAck, Id: p.Id, Block: p.Block})
	return e.endTarget()
}

func (e *Engine) takeNegAck(p api.Packet) api.Errno {
	delete(e.run.requests, int(p.Id))
	return e.endTarget()
}

// endTarget ends the run, if there is nothing left to ask for or to wait for.
func (e *Engine) endTarget() api.Errno {
	if e.store.Marked() > 0 || len(e.run.requests) > 0 {
		return api.OK
	}
	if err := e.store.Checkpoint(); err == api.ErrPower {
		return err
	}
	e.send(api.Packet{Cmd: api.CmdSyncDone, Count: uint32(e.counts.shipped)})
	e.rest()
	return api.OK
}
