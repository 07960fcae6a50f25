package resync

import (
	"replica/api"
	"replica/digest"
	"replica/walk"
)

// walkAll gives a walk over all blocks.
func (e *Engine) walkAll() *walk.Walker {
	blocks := e.store.Layout().Blocks
	words := make([]uint64, (blocks+63)/64)
	for block := range blocks {
		words[block/64] |= 1 << (block % 64)
	}
	return walkOver(blocks, words, 0)
}

func (e *Engine) tickVerify() api.Errno {
	e.run.pace.Tick()
	if err := e.askOn(e.askAll); err == api.ErrPower {
		return err
	}
	e.endVerify()
	return api.OK
}

// askAll: a block that cannot be read here is found at once, and needs no answer.
func (e *Engine) askAll(block int) api.Errno {
	data, err := e.store.Read(block)
	switch err {
	case api.ErrPower:
		return err
	case api.OK:
		e.sendRequest(api.Packet{Cmd: api.CmdVerifyRequest, Block: uint32(block), Sum: digest.Sum256(data)})
		return api.OK
	}
	return e.find(block)
}

// find marks a block that differs, or may.
func (e *Engine) find(block int) api.Errno {
	if _, err := e.store.Mark(block); err == api.ErrPower {
		return err
	}
	e.counts.found++
	return api.OK
}

func (e *Engine) takeVerifyReply(p api.Packet) api.Errno {
	delete(e.run.requests, int(p.Id))
	if p.Flags == 0 {
		e.counts.same++
	} else if err := e.find(int(p.Block)); err == api.ErrPower {
		return err
	}
	e.endVerify()
	return api.OK
}

// endVerify ends the run, if every block was asked for and told of.
func (e *Engine) endVerify() {
	if e.run.walk.Left() > 0 || len(e.run.requests) > 0 {
		return
	}
	e.send(api.Packet{Cmd: api.CmdVerifyDone, Count: uint32(e.counts.found)})
	e.rest()
}

func (e *Engine) takeVerifyRequest(p api.Packet) api.Errno {
	data, err := e.store.Read(int(p.Block))
	if err == api.ErrPower {
		return err
	}
	reply := api.Packet{Cmd: api.CmdVerifyReply, Id: p.Id, Block: p.Block}
	if err == api.OK && p.Sum == digest.Sum256(data) {
		e.counts.same++
	} else {
		if err := e.find(int(p.Block)); err == api.ErrPower {
			return err
		}
		reply.Flags = 1
	}
	e.send(reply)
	return api.OK
}
