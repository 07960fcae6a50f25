package resync

import (
	"bytes"
	"slices"
	"testing"

	"replica/api"
)

// message: a packet of an engine, or a client's write, which goes in order with the packets.
type message struct {
	packet api.Packet
	write  *write
}

// write: a client's, from its asking for the lock until it is durable on both sides.
type write struct {
	owner, block int
	fill         byte
	here, there  bool // it is applied at the source, at the target
	done         [2]bool
}

// world: a source and a target, what is on the way between them, and clients at the source.
type world struct {
	t      *testing.T
	dice   dice
	a, b   *side
	ab, ba []message
	writes []*write // as they asked for their locks
	owners int
	fills  byte
	seen   map[string]int
}

// newWorld: some blocks marked, the same on both sides; blocks that are not marked are the same and durable.
func newWorld(t *testing.T, seed int, x shape) *world {
	t.Helper()
	w := &world{t: t, dice: dice(seed), a: newSide(t, x, false), b: newSide(t, x, false), seen: map[string]int{}}
	for block := range x.blocks {
		c := w.fill()
		w.a.lay(block, c)
		w.b.lay(block, c)
		if w.dice.below(3) == 0 {
			continue
		}
		w.a.s.Mark(block)
		w.b.s.Mark(block)
		for range w.dice.below(4) {
			v := w.side()
			must(t, "Apply", v.s.Apply(block, v.fill(w.fill())))
		}
		if w.dice.below(3) == 0 {
			v := w.side()
			must(t, "Through", v.s.Through(block, v.fill(w.fill())))
		}
	}
	return w
}

func (w *world) side() *side { return []*side{w.a, w.b}[w.dice.below(2)] }

// fill: few kinds of blocks, so that unlike ones are the same again by chance.
func (w *world) fill() byte { return byte(w.dice.below(4)) }

func (w *world) begin() {
	w.t.Helper()
	if _, e := w.a.e.Start(api.ModeSource); e != api.OK {
		w.t.Fatalf("P1602: %v", e)
	}
	o, e := w.b.e.Start(api.ModeTarget)
	if e != api.OK {
		w.t.Fatalf("P1602: %v", e)
	}
	w.give(w.b, o)
}

// give puts what an engine gave on the way, and tells those who came in.
func (w *world) give(v *side, o api.Out) {
	for _, p := range o.Packets {
		w.seen[name(p.Cmd)]++
		if v == w.a {
			w.ab = append(w.ab, message{packet: p})
		} else {
			w.ba = append(w.ba, message{packet: p})
		}
	}
	for _, owner := range o.Granted {
		w.comesIn(owner)
	}
}

func (w *world) comesIn(owner int) {
	if owner < 0 {
		w.give(w.a, w.a.e.Granted(owner))
		return
	}
	for _, c := range w.writes {
		if c.owner == owner {
			w.do(c)
		}
	}
}

// do: the write has its lock.
func (w *world) do(c *write) {
	w.a.s.Apply(c.block, w.a.fill(c.fill))
	c.here = true
	w.ab = append(w.ab, message{write: c})
}

// ask: a client asks for a lock.
func (w *world) ask() {
	w.owners++
	c := &write{owner: w.owners, block: w.dice.below(w.a.x.blocks), fill: w.fill()}
	in, e := w.a.l.Acquire(c.block/4, api.Shared, c.owner)
	if e != api.OK {
		return
	}
	w.writes = append(w.writes, c)
	if in {
		w.do(c)
	} else {
		w.seen["a client waits"]++
	}
}

// deliver hands the first message of a row over. Where the power is gone nothing is looked at.
func (w *world) deliver(to *side, row *[]message) {
	w.t.Helper()
	if len(*row) == 0 {
		return
	}
	m := (*row)[0]
	*row = (*row)[1:]
	if m.write != nil {
		to.s.Apply(m.write.block, to.fill(m.write.fill))
		m.write.there = true
		return
	}
	o, e := to.e.Receive(m.packet)
	if e != api.OK && to.d.On() {
		w.t.Fatalf("of two engines that keep to the rules one refuses %s: %v", tellPacket(m.packet), e)
	}
	w.give(to, o)
}

// flush makes one side's writes durable; those that are so on both sides give their locks back.
func (w *world) flush(v *side) {
	if v.s.Flush() != api.OK {
		return
	}
	for _, c := range w.writes {
		if v == w.a {
			c.done[0] = c.here
		} else {
			c.done[1] = c.there
		}
	}
	var rest, gone []*write
	for _, c := range w.writes {
		if c.done[0] && c.done[1] {
			gone = append(gone, c)
		} else {
			rest = append(rest, c)
		}
	}
	w.writes = rest
	for _, c := range gone {
		w.seen["a write is through"]++
		granted, _ := w.a.l.Release(c.block/4, c.owner)
		for _, owner := range granted {
			w.comesIn(owner)
		}
	}
}

func (w *world) step(clients bool) {
	w.t.Helper()
	switch n := w.dice.below(20); {
	case n < 3:
		w.give(w.b, w.b.e.Tick())
	case n < 4:
		w.give(w.a, w.a.e.Tick())
	case n < 10:
		w.deliver(w.b, &w.ab)
	case n < 16:
		w.deliver(w.a, &w.ba)
	case n < 17:
		w.flush(w.a)
	case n < 18:
		w.flush(w.b)
	case clients:
		w.ask()
	}
}

// clientHolds tells whether a client has locked the block's extent.
func (w *world) clientHolds(block int) bool {
	owners, _, _ := w.a.l.Holders(block / 4)
	for _, owner := range owners {
		if owner > 0 {
			return true
		}
	}
	return false
}

func (w *world) differs(block int) bool {
	x, _ := w.a.d.Durable(block)
	y, _ := w.b.d.Durable(block)
	return !bytes.Equal(x, y)
}

func has(words []uint64, block int) bool { return words[block/64]>>(block%64)&1 == 1 }

// remembers: P1620, by what is stored as marked.
func (w *world) remembers(what string) {
	w.t.Helper()
	storedA, storedB := w.a.s.Stored(), w.b.s.Stored()
	for block := range w.a.x.blocks {
		if w.differs(block) && !w.clientHolds(block) {
			w.seen["a block differs"]++
			if !has(storedA, block) || !has(storedB, block) {
				w.t.Fatalf("P1620: %s: block %d differs, and is forgotten (source %x, target %x)", what, block, storedA, storedB)
			}
		}
	}
}

func (w *world) idle() bool {
	return w.a.e.Progress().Mode == 0 && w.b.e.Progress().Mode == 0
}

// ended: P1621.
func (w *world) ended() {
	w.t.Helper()
	for _, v := range []*side{w.a, w.b} {
		v.marks("P1621", nil, nil)
	}
	for block := range w.a.x.blocks {
		if w.differs(block) && !w.clientHolds(block) {
			w.t.Fatalf("P1621: block %d differs at the end", block)
		}
	}
	if len(w.ba) > 0 {
		w.t.Fatalf("P1621: %d messages are left", len(w.ba))
	}
}

// play goes on until both are idle; false: the power went.
func (w *world) play(steps int) bool {
	w.t.Helper()
	for n := 0; !w.idle(); n++ {
		if n > 10*steps+40000 {
			w.t.Fatalf("no end: %+v, %+v", w.a.e.Progress(), w.b.e.Progress())
		}
		w.step(n < steps)
		if !w.a.d.On() || !w.b.d.On() {
			return false
		}
		w.remembers("a step")
	}
	return true
}

// storyShapes: narrow tables make the source refuse requests.
func storyShapes() []shape {
	return []shape{
		usual,
		{blocks: 3, size: 128, waiters: 1, rate: 1, burst: 1, ahead: 1},
		{blocks: 20, size: 128, waiters: 2, rate: 3, burst: 5, ahead: 8},
		{blocks: 37, size: 128, waiters: 64, rate: 40, burst: 40, ahead: 30},
		{blocks: 24, size: 128, waiters: 0, rate: 9, burst: 3, ahead: 5},
	}
}

func TestNeverForgotten(t *testing.T) {
	seen := map[string]int{}
	for i, x := range storyShapes() {
		for seed := range 40 {
			w := newWorld(t, 1000*i+seed, x)
			w.begin()
			w.remembers("the beginning")
			if !w.play(600) {
				t.Fatal("the power is to stay")
			}
			w.ended()
			for what, n := range w.seen {
				seen[what] += n
			}
		}
	}
	wantSeen(t, seen, 200, "InSync", "SyncData", "NegAck", "SyncDone", "a client waits", "a write is through", "a block differs")
}

// TestNeverForgottenPower: the power goes at one side or at both, at any step; what differs then is found marked or was being written to. Then both begin anew, with the marks of both.
func TestNeverForgottenPower(t *testing.T) {
	seen := map[string]int{}
	for i, x := range storyShapes() {
		for seed := range 40 {
			w := newWorld(t, 7000*i+seed, x)
			for range 4 {
				w.begin()
				w.side().d.Fuse(w.dice.below(40))
				if w.play(600) {
					w.ended()
					seen["the end"]++
					break
				}
				seen["the power"]++
				w.recover()
			}
			for what, n := range w.seen {
				seen[what] += n
			}
		}
	}
	wantSeen(t, seen, 100, "the end", "the power", "found marked", "was being written to")
}

// recover: a crash, and what is found behind it.
func (w *world) recover() {
	w.t.Helper()
	held := make([]bool, w.a.x.blocks)
	for block := range held {
		held[block] = w.clientHolds(block)
	}
	for _, v := range []*side{w.a, w.b} {
		if !v.d.On() || w.dice.below(2) == 0 {
			v.d.Crash(w.dice.picks())
		}
		v.d.Fuse(-1)
		v.open()
	}
	words := w.a.words()
	for block := range held {
		a, b := has(w.a.s.Bits(), block), has(w.b.s.Bits(), block)
		if w.differs(block) && !held[block] {
			w.seen["found marked"]++
			if !a || !b {
				w.t.Fatalf("P1620: block %d differs behind the loss of power, and is forgotten", block)
			}
		}
		if w.differs(block) && held[block] {
			w.seen["was being written to"]++
		}
		if a || b || held[block] {
			words[block/64] |= 1 << (block % 64)
		}
	}
	for _, v := range []*side{w.a, w.b} {
		if _, e := v.s.MarkWords(words); e != api.OK {
			w.t.Fatalf("MarkWords: %v", e)
		}
	}
	w.ab, w.ba, w.writes = nil, nil, nil
}

// TestStoppedAndBegunAnew: the connection goes, and comes again with the marks of both.
func TestStoppedAndBegunAnew(t *testing.T) {
	for seed := range 60 {
		w := newWorld(t, seed, storyShapes()[seed%5])
		for range 3 {
			w.begin()
			for range w.dice.below(120) {
				w.step(false)
				w.remembers("a step")
			}
			w.ab, w.ba = nil, nil
			w.give(w.a, w.a.e.Stop())
			w.give(w.b, w.b.e.Stop())
			if locks := locksOf(w.a.l, 1); w.a.l.Waiting() != 0 || locks != "0: [] 0 []; " {
				t.Fatalf("P1618: locks stay: %s", locks)
			}
			w.remembers("stopped")
			w.a.s.MarkWords(w.b.s.Bits())
			w.b.s.MarkWords(w.a.s.Bits())
		}
		w.begin()
		w.play(0)
		w.ended()
	}
}

// calm hands every message on, between two Ticks.
func (w *world) calm() {
	w.t.Helper()
	for n := 0; len(w.ab)+len(w.ba) > 0; n++ {
		if n > 100000 {
			w.t.Fatal("no end of messages")
		}
		w.deliver(w.b, &w.ab)
		w.deliver(w.a, &w.ba)
	}
}

// TestItEnds: P1622, and that no more is shipped than differs.
func TestItEnds(t *testing.T) {
	for seed := range 300 {
		d := dice(seed)
		x := shape{blocks: 1 + d.below(60), size: 128, rate: 1 + d.below(6), burst: 1 + d.below(6), ahead: 1 + d.below(8)}
		x.waiters = x.ahead
		w := newWorld(t, seed, x)
		if d.below(2) == 0 {
			// The walk begins somewhere, and goes round.
			w.b.s.Checkpoint()
			low := d.below(x.blocks)
			w.a.s.Mark(low)
			w.b.s.Mark(low)
		}
		marked, unlike := w.b.s.Marked(), 0
		for block := range x.blocks {
			p, _ := w.a.s.Read(block)
			q, _ := w.b.s.Read(block)
			if !bytes.Equal(p, q) {
				unlike++
			}
		}
		least := min(x.rate, x.burst, x.ahead)
		most := (marked + least - 1) / least
		w.begin()
		w.calm()
		ticks := 0
		for ; w.b.e.Progress().Mode != 0; ticks++ {
			if ticks == most {
				t.Fatalf("P1622: %+v: %d marked, not done behind %d Ticks", x, marked, ticks)
			}
			w.give(w.b, w.b.e.Tick())
			w.calm()
		}
		w.ended()
		want := api.Progress{Shipped: unlike, Same: marked - unlike}
		w.a.tells("P1621", want)
		w.b.tells("P1621", want)
	}
}

// TestVerifyPair: P1623, with any pace, and replies in any time.
func TestVerifyPair(t *testing.T) {
	for seed := range 200 {
		d := dice(seed)
		x := shape{blocks: 1 + d.below(70), size: 128, rate: 1 + d.below(6), burst: 1 + d.below(6), ahead: 1 + d.below(8)}
		w := newWorld(t, seed, x)
		if d.below(3) > 0 {
			// Marks of other blocks than those that differ.
			for block := range x.blocks {
				w.a.s.Clean(block)
				if d.below(2) == 0 {
					w.b.s.Clean(block)
				}
			}
		}
		var differ []int
		wantA, wantB := w.a.s.Bits(), w.b.s.Bits()
		for block := range x.blocks {
			p, _ := w.a.s.Read(block)
			q, _ := w.b.s.Read(block)
			if !bytes.Equal(p, q) {
				differ = append(differ, block)
				wantA[block/64] |= 1 << (block % 64)
				wantB[block/64] |= 1 << (block % 64)
			}
		}
		w.a.start(api.ModeVerifySource)
		w.b.start(api.ModeVerifyTarget)
		for n := 0; !w.idle(); n++ {
			if n > 100000 {
				t.Fatalf("no end: %+v", w.a.e.Progress())
			}
			w.step(false)
		}
		want := api.Progress{Same: x.blocks - len(differ), Found: len(differ)}
		w.a.tells("P1623", want)
		w.b.tells("P1623", want)
		if a, b := w.a.s.Bits(), w.b.s.Bits(); !slices.Equal(a, wantA) || !slices.Equal(b, wantB) {
			t.Fatalf("P1623: marked %x and %x, want %x and %x", a, b, wantA, wantB)
		}
	}
}
