package resync

import (
	"bytes"
	"math"
	"slices"
	"testing"

	"replica/api"
)

// TestMemoryHandedIn: what is handed in is not changed and not kept.
func TestMemoryHandedIn(t *testing.T) {
	b := started(t, api.ModeTarget)
	b.ticks("P1604", asks(1, 0, 0), asks(2, 1, 0), asks(3, 2, 0))
	data, all := roomy(fill(9))
	if _, e := b.e.Receive(api.Packet{Cmd: api.CmdSyncData, Id: 1, Data: data}); e != api.OK {
		t.Fatalf("P1606: %v", e)
	}
	if !bytes.Equal(data[:cap(data)][:len(all)], all) {
		t.Error("P1624: what was handed in has changed")
	}
	for i := range data[:len(all)] {
		data[:len(all)][i] = 0x77
	}
	b.durable("P1624: kept", 0, 9)
	if x, e := b.s.Read(0); e != api.OK || !bytes.Equal(x, fill(9)) {
		t.Error("P1624: kept")
	}
}

// TestMemoryAnswered: what is answered may be written over, and appended to.
func TestMemoryAnswered(t *testing.T) {
	a := started(t, api.ModeSource)
	a.lay(0, 3)
	ask := func(p api.Packet) api.Out {
		t.Helper()
		o, e := a.e.Receive(p)
		if e != api.OK {
			t.Fatalf("Receive of %s: %v", tellPacket(p), e)
		}
		return o
	}
	first := ask(asks(1, 0, 0))
	held := slices.Clone(first.Packets[0].Data)
	second := ask(asks(2, 4, 9))
	scribble(first)
	if !bytes.Equal(second.Packets[0].Data, fill(0)) || !bytes.Equal(held, fill(3)) {
		t.Error("P1624: two answers share memory")
	}
	a.durable("P1624: the store's own", 0, 3)
	if x, _ := a.s.Read(0); !bytes.Equal(x, fill(3)) {
		t.Error("P1624: the store's own")
	}
	a.acquire(0, api.Shared, 7, false)
	a.acquire(0, api.Shared, 8, false)
	o := ask(acks(1, 0))
	if !slices.Equal(o.Granted, []int{7, 8}) {
		t.Fatalf("P1612: %v", o.Granted)
	}
	scribble(o)
	a.owns("P1624", 0, []int{7, 8})
	ask(asks(3, 1, 0))
	a.acquire(0, api.Shared, 9, false)
	stopped := a.e.Stop()
	if !slices.Equal(stopped.Granted, []int{9}) {
		t.Fatalf("P1618: %v", stopped.Granted)
	}
	scribble(stopped)
	a.owns("P1624", 0, []int{7, 8, 9})
}

// TestMemoryTicks: the packets of one Tick are not those of another.
func TestMemoryTicks(t *testing.T) {
	b := started(t, api.ModeTarget)
	first := b.e.Tick()
	kept := slices.Clone(first.Packets)
	second := b.e.Tick()
	scribble(second)
	if !slices.EqualFunc(first.Packets, kept, samePacket) {
		t.Error("P1624: two answers share memory")
	}
	scribble(first)
	b.takes("P1624", same(1, 0), ps{acks(1, 0)})
}

// TestTwoEngines: on stores and tables of their own they know nothing of each other.
func TestTwoEngines(t *testing.T) {
	a, b := started(t, api.ModeSource), started(t, api.ModeSource)
	a.takes("P1609", asks(1, 0, 0), ps{same(1, 0)})
	b.wrong("P2: no request is held there", acks(1, 0))
	b.takes("P1609", asks(1, 0, 9), ps{ships(1, 0, 0)})
	a.tells("P2", api.Progress{Mode: 1, Left: 8, Flight: 1, Same: 1})
	b.tells("P2", api.Progress{Mode: 1, Left: 8, Flight: 1, Shipped: 1})
}

// TestNoise: packets of any numbers, in every mode.
func TestNoise(t *testing.T) {
	for i, x := range shapes()[:5] {
		c := newPair(t, 900+i, x, true)
		for range 3000 {
			if c.p.mode == 0 {
				c.start(1 + c.dice.below(4))
			}
			c.receive(c.noise())
			c.granted(c.dice.one(math.MinInt, -3, -2, -1, 0, 1, math.MaxInt))
			if c.dice.below(20) == 0 {
				c.tick()
			}
			if c.dice.below(200) == 0 {
				c.stop()
			}
			c.alike("noise")
		}
	}
}

func (c *pair) noise() api.Packet {
	small := func() uint32 {
		return uint32(c.dice.one(0, 0, 1, 2, 3, 4, 8, 255, 256, 4095, 4096, 1<<31-1, 1<<31, math.MaxUint32))
	}
	p := api.Packet{Cmd: c.dice.one(0, 26, math.MinInt, math.MaxInt, 12+c.dice.below(11), 1+c.dice.below(25)), Id: small(), Block: small()}
	if c.dice.below(3) == 0 {
		p.Flags = small()
	}
	if c.dice.below(6) == 0 {
		p.Epoch, p.Count = small(), small()
	}
	if c.dice.below(4) == 0 {
		p.Data = make([]byte, c.dice.one(0, 1, 127, 128, 129, 256, 1024, 1025, 65536))
	}
	if c.dice.below(4) == 0 {
		p.Sum[c.dice.below(32)] = byte(c.dice.below(256))
	}
	if c.dice.below(20) == 0 {
		p.Gens.Bitmap = math.MaxUint64
	}
	return p
}
