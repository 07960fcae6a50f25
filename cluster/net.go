package cluster

import (
	"slices"

	"replica/api"
)

// send puts frames on their way to a node.
func (c *Cluster) send(i int, frames [][]byte) {
	if c.parted {
		return
	}
	for _, frame := range frames {
		c.sides[i].put(frame)
	}
}

// put: a frame that finds the queue full is lost.
func (s *side) put(frame []byte) {
	if len(s.queue) < api.MaxNet {
		s.queue = append(s.queue, frame)
	}
}

// place tells which of the frames that wait an event means; false: none waits.
func (c *Cluster) place(ev event) (int, bool) {
	count := len(c.sides[ev.node].queue)
	if count == 0 {
		return 0, false
	}
	return ev.number % count, true
}

// remove takes a frame out of the queue, which keeps nothing of it.
func (s *side) remove(place int) []byte {
	frame := s.queue[place]
	s.queue = slices.Delete(s.queue, place, place+1)
	return frame
}

func (c *Cluster) deliver(ev event) []string {
	place, found := c.place(ev)
	if !found {
		return nil
	}
	return c.hand(ev.node, place)
}

// hand hands a node the frame at a place; one that is down loses it.
func (c *Cluster) hand(i, place int) []string {
	s := &c.sides[i]
	frame := s.remove(place)
	if s.node == nil {
		return nil
	}
	return c.settle(i, s.node.Take(frame))
}

func (c *Cluster) drop(ev event) []string {
	if place, found := c.place(ev); found {
		c.sides[ev.node].remove(place)
	}
	return nil
}

func (c *Cluster) copy(ev event) []string {
	if place, found := c.place(ev); found {
		s := &c.sides[ev.node]
		s.put(s.queue[place])
	}
	return nil
}

func (c *Cluster) part(ev event) []string {
	c.parted = true
	return nil
}

func (c *Cluster) heal(ev event) []string {
	c.parted = false
	return nil
}

func (c *Cluster) tick(ev event) []string { return c.tickNode(ev.node) }

func (c *Cluster) tickNode(i int) []string {
	s := &c.sides[i]
	if s.node == nil {
		return nil
	}
	return c.settle(i, s.node.Tick())
}

func (c *Cluster) run(ev event) []string {
	var told []string
	for range ev.number {
		told = append(told, c.calmRound()...)
	}
	return told
}

// calmRound: what a frame brings on its way back waits for the next round.
func (c *Cluster) calmRound() []string {
	var told []string
	for i := range c.sides {
		for range len(c.sides[i].queue) {
			told = append(told, c.hand(i, 0)...)
		}
	}
	for i := range c.sides {
		told = append(told, c.tickNode(i)...)
	}
	return told
}
