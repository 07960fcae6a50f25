package cluster

import (
	"replica/api"
	"replica/node"
)

func (c *Cluster) up(ev event) []string {
	s := &c.sides[ev.node]
	if s.node != nil {
		return ev.refused(api.ErrState)
	}
	n, e := node.New(s.disk, c.config, ev.node)
	if e != api.OK {
		return append(ev.refused(e), c.settle(ev.node, api.NodeOut{})...)
	}
	s.node = n
	return nil
}

func (c *Cluster) crash(ev event) []string {
	if c.sides[ev.node].node == nil {
		return ev.refused(api.ErrOff)
	}
	c.sides[ev.node].goDown(ev.picks)
	return nil
}

// goDown takes the power away. With it the fuse is gone.
func (s *side) goDown(picks []byte) {
	s.disk.Crash(picks)
	s.node, s.picks = nil, nil
}

func (c *Cluster) wipe(ev event) []string {
	if c.sides[ev.node].node != nil {
		return ev.refused(api.ErrState)
	}
	c.sides[ev.node].disk, _ = node.Disk(c.config, false, 0)
	return nil
}

func (c *Cluster) scribble(ev event) []string {
	if c.sides[ev.node].node != nil {
		return ev.refused(api.ErrState)
	}
	if ev.number >= c.config.Blocks {
		return ev.refused(api.ErrRange)
	}
	c.sides[ev.node].disk.Through(ev.number, repeated(ev.fill, c.config.Size))
	return nil
}

func repeated(fill []byte, length int) []byte {
	data := make([]byte, length)
	for i := range data {
		data[i] = fill[i%len(fill)]
	}
	return data
}

func (c *Cluster) spoil(ev event) []string {
	if c.sides[ev.node].disk.Spoil(ev.number) != nil {
		return ev.refused(api.ErrRange)
	}
	return nil
}

func (c *Cluster) fuse(ev event) []string {
	s := &c.sides[ev.node]
	if s.node == nil {
		return ev.refused(api.ErrOff)
	}
	s.disk.Fuse(ev.number)
	s.picks = ev.picks
	return nil
}

func (c *Cluster) connect(ev event) []string {
	return c.ask(ev, func(n *node.Node) (api.NodeOut, api.Errno) { return n.Connect(ev.more) })
}

func (c *Cluster) disconnect(ev event) []string { return c.ask(ev, (*node.Node).Disconnect) }

func (c *Cluster) promote(ev event) []string {
	return c.ask(ev, func(n *node.Node) (api.NodeOut, api.Errno) { return n.Promote(ev.more) })
}

func (c *Cluster) demote(ev event) []string { return c.ask(ev, (*node.Node).Demote) }

func (c *Cluster) verify(ev event) []string { return c.ask(ev, (*node.Node).Verify) }

func (c *Cluster) invalidate(ev event) []string { return c.ask(ev, (*node.Node).Invalidate) }

func (c *Cluster) read(ev event) []string {
	return c.submit(ev, api.Op{Kind: api.OpRead, Block: ev.number})
}

func (c *Cluster) write(ev event) []string {
	length := ev.length
	if length < 0 {
		length = c.config.Size
	}
	return c.submit(ev, api.Op{Kind: api.OpWrite, Block: ev.number, Data: repeated(ev.fill, length)})
}

func (c *Cluster) zero(ev event) []string {
	return c.submit(ev, api.Op{Kind: api.OpZero, Block: ev.number})
}

func (c *Cluster) flush(ev event) []string { return c.submit(ev, api.Op{Kind: api.OpFlush}) }

// submit hands a client's operation over. Its ID is used up, whatever comes of it.
func (c *Cluster) submit(ev event, op api.Op) []string {
	c.ops++
	op.Id = c.ops
	return c.ask(ev, func(n *node.Node) (api.NodeOut, api.Errno) { return n.Submit(op) })
}

// ask makes a call of a node, if it is up. A call in which the power went is not refused: what came of it is open.
func (c *Cluster) ask(ev event, call func(n *node.Node) (api.NodeOut, api.Errno)) []string {
	s := &c.sides[ev.node]
	if s.node == nil {
		return ev.refused(api.ErrOff)
	}
	out, e := call(s.node)
	if e != api.OK && s.disk.On() {
		return ev.refused(e)
	}
	return c.settle(ev.node, out)
}

// settle sees to what a call of a node has left: its power may be gone, frames go on their way, answers are told.
func (c *Cluster) settle(i int, out api.NodeOut) []string {
	s := &c.sides[i]
	if !s.disk.On() {
		s.goDown(s.picks)
		return sentence(i, "lost power")
	}
	c.send(1-i, out.Frames)
	return tellAnswers(i, out.Answers)
}
