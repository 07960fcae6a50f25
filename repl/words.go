package repl

import (
	"bytes"

	"replica/api"
)

// meant gives the operation at that place of which a packet speaks; nil: there is none.
func (c *client) meant(p api.Packet, at place) *operation {
	o := c.find(int(p.Id))
	if o == nil || o.place != at || o.block != int(p.Block) {
		return nil
	}
	return o
}

// takeAck: the peer has a write.
func (c *client) takeAck(p api.Packet) bool {
	o := c.meant(p, atSent)
	if o == nil || p.Cmd != c.ack() {
		return false
	}
	c.log.Ack(o.id)
	c.answer(o, api.OK, nil)
	c.goOn()
	return true
}

// takeBarrierAck: the peer has made an epoch durable.
func (c *client) takeBarrierAck(p api.Packet) bool {
	epoch := int(p.Epoch)
	if c.ack() != 0 && c.lacksAck(epoch) {
		return false
	}
	writes, e := c.log.Barrier(epoch, int(p.Count))
	if e != api.OK {
		return false
	}
	for _, w := range writes {
		delete(c.logged, w.Id)
		c.met(c.store.End(w.Block))
	}
	for _, o := range c.standing(atEpoch) {
		if c.log.Settled(o.epoch) {
			c.answer(o, api.OK, nil)
		}
	}
	c.goOn()
	return true
}

// lacksAck tells whether a write of that epoch has no Ack.
func (c *client) lacksAck(epoch int) bool {
	for _, w := range c.log.Unacked() {
		if w.Epoch == epoch {
			return true
		}
	}
	return false
}

// takeReadReply: the peer has read a block, or could not.
func (c *client) takeReadReply(p api.Packet) bool {
	o := c.meant(p, atAsked)
	if o == nil || p.Flags == 0 && len(p.Data) != c.size {
		return false
	}
	var data []byte
	if p.Flags == 0 {
		data = bytes.Clone(p.Data)
	}
	c.answer(o, api.Errno(p.Flags), data)
	c.goOn()
	return true
}

// losePeer marks what the peer may lack, and ends all that waits for its word.
func (c *client) losePeer() {
	for _, w := range c.log.Fail() {
		_, e := c.store.Mark(w.Block)
		c.met(e)
		c.met(c.store.End(w.Block))
	}
	clear(c.logged)
	c.joined = false
	for _, o := range c.standing(atSent, atAsked, atEpoch) {
		switch o.place {
		case atAsked:
			c.answer(o, api.ErrMedium, nil)
		case atEpoch:
			c.flush()
			c.answer(o, api.OK, nil)
		default:
			c.answer(o, api.OK, nil)
		}
	}
}

// standing gives the operations at these places, as they were submitted.
func (c *client) standing(places ...place) []*operation {
	var found []*operation
	for _, o := range c.pending {
		for _, at := range places {
			if o.place == at {
				found = append(found, o)
			}
		}
	}
	return found
}
