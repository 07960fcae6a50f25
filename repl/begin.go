package repl

import "replica/api"

// begin does the first operation of the ready list; false: it is stuck.
func (c *client) begin(o *operation) bool {
	if o.kind == api.OpRead {
		c.beginRead(o)
		return true
	}
	if c.connected {
		return c.writeBoth(o)
	}
	c.writeAlone(o)
	return true
}

// beginRead: of a block that cannot be read here the peer is asked, unless it may have other bytes.
func (c *client) beginRead(o *operation) {
	data, e := c.store.Read(o.block)
	c.met(e)
	if e == api.ErrMedium && c.connected && c.store.Next(o.block) != o.block {
		c.send(api.Packet{Cmd: api.CmdReadRequest, Id: uint32(o.id), Block: uint32(o.block)})
		o.place = atAsked
		return
	}
	c.answer(o, e, data)
}

// writeAlone marks the block ahead of the write: behind a loss of power in between it is found marked.
func (c *client) writeAlone(o *operation) {
	_, e := c.store.Mark(o.block)
	c.met(e)
	c.writeHere(o)
	c.answer(o, api.OK, nil)
}

// writeBoth writes a block here and sends it; false: the activity log or the transfer log has no room until an epoch is settled.
func (c *client) writeBoth(o *operation) bool {
	if c.met(c.store.Begin(o.block)) == api.ErrStarved {
		c.closeEpoch()
		return false
	}
	epoch, full, e := c.log.Add(o.id, o.block)
	if e == api.ErrFull {
		c.met(c.store.End(o.block))
		c.closeEpoch()
		return false
	}
	c.logged[o.id] = struct{}{}
	c.joined = true
	c.writeHere(o)
	c.sendWrite(o, epoch)
	if c.ack() == 0 {
		c.answer(o, api.OK, nil)
	} else {
		o.place = atSent
	}
	if full {
		c.closeEpoch()
	}
	return true
}

func (c *client) writeHere(o *operation) {
	data := o.data
	if o.kind == api.OpZero {
		data = make([]byte, c.size)
	}
	c.noteWrite(c.store.Write(o.block, data))
}

// sendWrite gives the operation's data away with the packet: nobody asks for them again.
func (c *client) sendWrite(o *operation, epoch int) {
	p := api.Packet{Cmd: api.CmdZero, Id: uint32(o.id), Block: uint32(o.block), Epoch: uint32(epoch)}
	if o.kind == api.OpWrite {
		p.Cmd, p.Data = api.CmdData, o.data
	}
	o.data = nil
	c.send(p)
	c.tally.sent++
}

// closeEpoch flushes first: what the peer makes durable at a barrier is durable here by then.
func (c *client) closeEpoch() {
	if !c.joined {
		return
	}
	c.flush()
	epoch, count, _ := c.log.Close()
	c.joined = false
	c.send(api.Packet{Cmd: api.CmdBarrier, Epoch: uint32(epoch), Count: uint32(count)})
}
