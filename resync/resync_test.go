package resync

import (
	"math"
	"testing"

	"replica/api"
	"replica/locks"
)

// two: the source and the target of the examples; the target's block 5 differs.
func two(t *testing.T) (*side, *side) {
	t.Helper()
	a, b := newSide(t, usual, true), newSide(t, usual, true)
	b.lay(5, 7)
	return a, b
}

func TestNew(t *testing.T) {
	v := newSide(t, usual, true)
	for _, n := range [][3]int{
		{0, 1, 1}, {-1, 1, 1}, {math.MinInt, 1, 1}, {api.MaxRate + 1, 1, 1}, {math.MaxInt, 1, 1},
		{1, 0, 1}, {1, -1, 1}, {1, math.MinInt, 1}, {1, api.MaxRate + 1, 1}, {1, math.MaxInt, 1},
		{1, 1, 0}, {1, 1, -1}, {1, 1, math.MinInt}, {1, 1, api.MaxAhead + 1}, {1, 1, math.MaxInt},
	} {
		if e, err := New(v.s, v.l, n[0], n[1], n[2]); e != nil || err != api.ErrArg {
			t.Errorf("P1601: New with %v: %v", n, err)
		}
	}
	for _, n := range [][3]int{{1, 1, 1}, {api.MaxRate, 1, 1}, {1, api.MaxRate, 1}, {1, 1, api.MaxAhead}} {
		e, err := New(v.s, v.l, n[0], n[1], n[2])
		if e == nil || err != api.OK || e.Progress() != (api.Progress{}) {
			t.Errorf("P1601: New with %v: %v", n, err)
		}
	}
	if e, err := New(nil, v.l, 1, 1, 1); e != nil || err != api.ErrArg {
		t.Errorf("P1601: New without a store: %v", err)
	}
	if e, err := New(v.s, nil, 1, 1, 1); e != nil || err != api.ErrArg {
		t.Errorf("P1601: New without a table: %v", err)
	}
}

func TestStart(t *testing.T) {
	v := newSide(t, usual, true)
	refuses := func(mode int, want api.Errno) {
		t.Helper()
		before := v.looks()
		if o, e := v.e.Start(mode); e != want || !sameOut(o, api.Out{}) {
			t.Fatalf("P1602: Start(%d): %s, %v, want %v", mode, tell(o), e, want)
		}
		v.stays("P1602: a refused Start", before)
	}
	for _, mode := range upTo(1, 4) {
		for _, wrong := range []int{math.MinInt, -1, 0, 5, math.MaxInt} {
			refuses(wrong, api.ErrArg)
		}
		v.start(mode)
		for _, again := range upTo(1, 4) {
			refuses(again, api.ErrState)
		}
		refuses(5, api.ErrArg) // what it is given is looked at first
		v.gives("P1618", v.e.Stop(), nil)
	}
}

// TestStartAnew: a run knows nothing of the one ahead of it, but that its counts are told until it begins.
func TestStartAnew(t *testing.T) {
	v := started(t, api.ModeTarget)
	v.ticks("P1604", asks(1, 0, 0), asks(2, 1, 0), asks(3, 2, 0))
	v.takes("P1605", same(1, 0), ps{acks(1, 0)})
	v.takes("P1606", ships(2, 1, 9), ps{acks(2, 1)})
	v.tells("P1619", api.Progress{Mode: 2, Left: 6, Flight: 1, Same: 1, Shipped: 1})
	v.gives("P1618", v.e.Stop(), nil)
	v.tells("P1619: the counts of the last run", api.Progress{Same: 1, Shipped: 1})
	v.start(api.ModeTarget)
	v.tells("P1602", api.Progress{Mode: 2, Left: 6})
	v.wrong("P1602: no request is in flight", same(3, 2))
	v.ticks("P1602: a full pace, Ids from 1", asks(1, 2, 0), asks(2, 3, 0), asks(3, 4, 0))
	v.gives("P1618", v.e.Stop(), nil)
	v.start(api.ModeVerifySource)
	v.tells("P1602", api.Progress{Mode: 3, Left: 8})
	v.ticks("P1602: a full pace, Ids from 1", looksFor(1, 0, 0), looksFor(2, 1, 9), looksFor(3, 2, 0))
	v.takes("P1616", replies(1, 0, 1), nil)
	v.takes("P1616", replies(2, 1, 0), nil)
	v.gives("P1618", v.e.Stop(), nil)
	v.tells("P1619", api.Progress{Same: 1, Found: 1})
	v.start(api.ModeVerifyTarget)
	v.tells("P1619: of a verify target Left and Flight are 0", api.Progress{Mode: 4})
}

// TestStartFrom: the walk begins where the superblock's Mark says.
func TestStartFrom(t *testing.T) {
	v := newSide(t, usual, true)
	for _, b := range []int{0, 1, 2, 3, 6} {
		v.s.Clean(b)
	}
	must(t, "Checkpoint", v.s.Checkpoint())
	v.s.Clean(4)
	if m := v.s.Super().Mark; m != 4 {
		t.Fatalf("Mark %d", m)
	}
	v.start(api.ModeTarget)
	v.ticks("P1602", asks(1, 5, 0), asks(2, 7, 0))
	v.gives("P1618", v.e.Stop(), nil)

	w := newSide(t, usual, true)
	w.start(api.ModeTarget)
	w.s.Clean(1)
	w.ticks("P1602: the walk goes by the bits of the Start", asks(1, 0, 0), asks(2, 1, 0), asks(3, 2, 0))
}

func TestStartWithNothingMarked(t *testing.T) {
	v := newSide(t, usual, false)
	seq := v.s.Super().Seq
	v.start(api.ModeTarget, done(0))
	v.tells("P1608", api.Progress{})
	if v.s.Super().Seq != seq+1 {
		t.Error("P1608: a Checkpoint")
	}
	v.ticks("P1614")
	v.start(api.ModeSource)
	v.takes("P1613", done(7), nil)
	v.tells("P1613", api.Progress{})
	if v.s.Super().Seq != seq+2 {
		t.Error("P1613: a Checkpoint")
	}
}

// TestExamples: the chapter's examples 1 to 5.
func TestExamples(t *testing.T) {
	a, b := two(t)
	a.start(api.ModeSource)
	b.start(api.ModeTarget)
	b.tells("example 1", api.Progress{Mode: 2, Left: 8})
	b.ticks("example 2", asks(1, 0, 0), asks(2, 1, 0), asks(3, 2, 0))
	a.takes("example 2", asks(1, 0, 0), ps{same(1, 0)})
	a.takes("example 2", asks(2, 1, 0), nil)
	a.takes("example 2", asks(3, 2, 0), nil)
	a.owns("example 2", 0, []int{-1}, -2, -3)
	a.tells("P1619", api.Progress{Mode: 1, Left: 8, Flight: 3, Same: 1})
	b.takes("example 2", same(1, 0), ps{acks(1, 0)})
	a.takes("example 2", acks(1, 0), nil, -2)
	a.granted("example 2", -2, ps{same(2, 1)})
	b.ticks("example 3", asks(4, 3, 0), asks(5, 4, 0))
	b.tells("example 3", api.Progress{Mode: 2, Left: 7, Flight: 4, Same: 1})

	a.wrong("example 5", acks(9, 0))
	a.wrong("example 5", asks(2, 1, 0))
	a.wrong("example 5", asks(2, 7, 0))
	a.wrong("example 5", done(0))
	a.wrong("example 5", same(2, 1))
	a.wrong("example 5", asks(9, 8, 0))
	a.wrong("P1612: it waits", acks(3, 2))
	a.wrong("P1612: another block", acks(2, 2))

	b.takes("P1605", same(2, 1), ps{acks(2, 1)})
	a.takes("P1612", acks(2, 1), nil, -3)
	a.granted("P1611", -3, ps{same(3, 2)})
	b.takes("P1605", same(3, 2), ps{acks(3, 2)})
	a.takes("P1612", acks(3, 2), nil)
	a.takes("P1609", asks(4, 3, 0), ps{same(4, 3)})
	a.takes("P1609", asks(5, 4, 0), ps{same(5, 4)})
	b.ticks("P1604", asks(6, 5, 7), asks(7, 6, 0))
	b.ticks("P1604: four are in flight")
	for _, p := range []api.Packet{same(4, 3), same(5, 4)} {
		b.takes("P1605", p, ps{acks(p.Id, p.Block)})
		a.takes("P1612", acks(p.Id, p.Block), nil)
	}
	a.takes("example 4", asks(6, 5, 7), ps{ships(6, 5, 0)})
	a.takes("P1609", asks(7, 6, 0), nil)
	b.ticks("P1604", asks(8, 7, 0))
	a.takes("P1609", asks(8, 7, 0), nil)
	b.takes("example 4", ships(6, 5, 0), ps{acks(6, 5)})
	b.tells("example 4", api.Progress{Mode: 2, Left: 2, Flight: 2, Shipped: 1, Same: 5})
	b.durable("P1606", 5, 0)
	a.takes("P1612", acks(6, 5), nil, -7)
	a.granted("P1611", -7, ps{same(7, 6)})
	b.takes("P1605", same(7, 6), ps{acks(7, 6)})
	a.takes("P1612", acks(7, 6), nil, -8)
	a.granted("P1611", -8, ps{same(8, 7)})
	b.takes("example 4", same(8, 7), ps{acks(8, 7), done(1)})
	b.tells("example 4", api.Progress{Shipped: 1, Same: 7})
	a.wrong("P1613: a block is marked and a request held", done(1))
	a.takes("P1612", acks(8, 7), nil)
	a.marks("P1612: Clean alone stores nothing", nil, upTo(0, 7))
	a.tells("P1613: not yet", api.Progress{Mode: 1, Shipped: 1, Same: 7})
	a.takes("example 4", done(1), nil)
	a.tells("example 4", api.Progress{Shipped: 1, Same: 7})
	a.marks("P1613", nil, nil)
	b.marks("P1608", nil, nil)
	a.owns("P1612", 0, nil)
	a.owns("P1612", 1, nil)
}

// TestUnreadableAtSource: the chapter's example 6.
func TestUnreadableAtSource(t *testing.T) {
	a, b := two(t)
	a.d.Spoil(2)
	a.start(api.ModeSource)
	b.start(api.ModeTarget)
	b.ticks("P1604", asks(1, 0, 0), asks(2, 1, 0), asks(3, 2, 0))
	a.takes("example 6", asks(3, 2, 0), ps{refuses(3, 2, api.ErrMedium)})
	a.owns("example 6: its lock is given back", 0, nil)
	a.tells("P1610: it is not held", api.Progress{Mode: 1, Left: 8})
	a.wrong("P1610: it is not held", acks(3, 2))
	b.takes("P1607", refuses(3, 2, api.ErrMedium), nil)
	b.tells("P1607: it stays marked", api.Progress{Mode: 2, Left: 8, Flight: 2})
	b.wrong("P1607: it is in flight no more", refuses(3, 2, api.ErrMedium))
	b.takes("P1605", same(1, 0), ps{acks(1, 0)})
	b.takes("P1605", same(2, 1), ps{acks(2, 1)})
	b.ticks("P1604: the walk goes on", asks(4, 3, 0), asks(5, 4, 0))
	b.ticks("P1604: the walk goes on", asks(6, 5, 7), asks(7, 6, 0))
	b.takes("P1605", same(4, 3), ps{acks(4, 3)})
	b.ticks("P1604: the last block of the walk", asks(8, 7, 0))
	b.takes("P1605", same(5, 4), ps{acks(5, 4)})
	b.takes("P1606", ships(6, 5, 0), ps{acks(6, 5)})
	b.takes("P1605", same(7, 6), ps{acks(7, 6)})
	b.ticks("P1604: not begun anew while a request is in flight")
	b.takes("P1605", same(8, 7), ps{acks(8, 7)})
	b.tells("P1608: one is marked", api.Progress{Mode: 2, Left: 1, Same: 6, Shipped: 1})
	b.ticks("example 6: asked for again with a new Id", asks(9, 2, 0))
	b.ticks("P1604: the walk is through, and one in flight")
	b.takes("P1606", ships(9, 2, 4), ps{acks(9, 2), done(2)})
}

// TestUnreadableBehindOthers: the lock of a request that waited is given back, and tells who is next.
func TestUnreadableBehindOthers(t *testing.T) {
	a := started(t, api.ModeSource)
	a.d.Spoil(2)
	a.takes("P1609", asks(1, 0, 0), ps{same(1, 0)})
	a.takes("P1609", asks(2, 2, 0), nil)
	a.takes("P1609", asks(3, 1, 0), nil)
	a.acquire(0, api.Shared, 7, false)
	a.takes("P1612", acks(1, 0), nil, -2)
	a.granted("P1610", -2, ps{refuses(2, 2, api.ErrMedium)}, -3)
	a.granted("P1611: it is not held any more", -2, nil)
	a.granted("P1611", -3, ps{same(3, 1)})
	a.takes("P1612: others too are told", acks(3, 1), nil, 7)
	a.tells("P1612", api.Progress{Mode: 1, Left: 6, Same: 2})
}

// TestUnreadableAtTarget: the chapter's example 7.
func TestUnreadableAtTarget(t *testing.T) {
	a, b := two(t)
	b.d.Spoil(1)
	a.start(api.ModeSource)
	b.start(api.ModeTarget)
	b.ticks("example 7", asks(1, 0, 0), asksBlind(2, 1), asks(3, 2, 0))
	a.takes("example 7: the source ships it, whatever it is", asksBlind(2, 1), ps{ships(2, 1, 0)})
	b.wrong("P1605: it had no digest", same(2, 1))
	b.takes("P1606", ships(2, 1, 0), ps{acks(2, 1)})
	b.durable("P1606", 1, 0)
	a.takes("P1612", acks(2, 1), nil)
	a.tells("P1610", api.Progress{Mode: 1, Left: 7, Shipped: 1})
	b.tells("P1606", api.Progress{Mode: 2, Left: 7, Flight: 2, Shipped: 1})
	a.wrong("P1603: layer 7 does not write a digest beside Flags 1", api.Packet{Cmd: api.CmdSumRequest, Id: 5, Flags: 1, Sum: asks(1, 0, 0).Sum})
}

// TestUnreadableNoDigest: a digest of all zeroes is a digest, unless Flags say that there is none.
func TestUnreadableNoDigest(t *testing.T) {
	a := started(t, api.ModeSource)
	a.takes("P1610", api.Packet{Cmd: api.CmdSumRequest, Id: 1}, ps{ships(1, 0, 0)})
	a.takes("P1610", asks(2, 4, 1), ps{ships(2, 4, 0)})
	a.tells("P1610", api.Progress{Mode: 1, Left: 8, Flight: 2, Shipped: 2})
}

// TestClientHolds: the chapter's example 8.
func TestClientHolds(t *testing.T) {
	a := started(t, api.ModeSource)
	a.acquire(0, api.Shared, 7, true)
	a.takes("example 8", asks(1, 0, 3), nil)
	a.wrong("P1612: it waits", acks(1, 0))
	must(t, "Apply", a.s.Apply(0, fill(3)))
	a.free(0, 7, -1)
	a.granted("example 8: by the bytes as they are now", -1, ps{same(1, 0)})
	a.durable("P1610: made durable first", 0, 3)
	a.granted("P1611: it does not wait", -1, nil)
	a.takes("P1609", asks(2, 1, 0), nil)
	a.takes("P1612", acks(1, 0), nil, -2)
	must(t, "Apply", a.s.Apply(1, fill(4)))
	must(t, "Apply", a.s.Apply(6, fill(5)))
	a.granted("P1610", -2, ps{ships(2, 1, 4)})
	a.durable("P1610", 1, 4)
	a.durable("P1610: a Flush makes all durable", 6, 5)
	must(t, "Apply", a.s.Apply(6, fill(6)))
	flushes := a.d.Counts().Flushes
	a.takes("P1609", asks(3, 5, 0), ps{same(3, 5)})
	if a.d.Counts().Flushes != flushes || a.s.Waiting(6) != 1 {
		t.Error("P1610: no Flush, as the block has nothing cached")
	}
}

// TestGranted: only those that wait at a source.
func TestGranted(t *testing.T) {
	a := started(t, api.ModeSource)
	a.acquire(0, api.Shared, 7, true)
	a.takes("P1609", asks(1, 0, 0), nil)
	a.takes("P1609", asks(2, 4, 0), ps{same(2, 4)})
	for _, owner := range []int{math.MinInt, math.MaxInt, 0, 1, 7, -2, -3, -1 - 1<<32, -1 - 1<<31} {
		before := a.looks()
		a.granted("P1611", owner, nil)
		a.stays("P1611", before)
	}
	// The engine is told, and does not look for itself.
	a.granted("P1611", -1, ps{same(1, 0)})
	for _, mode := range []int{api.ModeTarget, api.ModeVerifySource, api.ModeVerifyTarget} {
		v := started(t, mode)
		v.e.Tick()
		for owner := range 5 {
			before := v.looks()
			v.granted("P1611: not a source", -owner, nil)
			v.stays("P1611", before)
		}
	}
	idle := newSide(t, usual, true)
	idle.granted("P1611: idle", -1, nil)
}

// TestAcquireRefuses: what the lock table refuses is told to the target.
func TestAcquireRefuses(t *testing.T) {
	x := usual
	x.waiters = 1
	a := newSide(t, x, true)
	a.start(api.ModeSource)
	a.takes("P1609", asks(1, 0, 0), ps{same(1, 0)})
	a.takes("P1609", asks(2, 1, 0), nil)
	a.takes("P1609", asks(3, 2, 0), ps{refuses(3, 2, api.ErrFull)})
	a.tells("P1609: not held", api.Progress{Mode: 1, Left: 8, Flight: 2, Same: 1})
	a.wrong("P1609: not held", acks(3, 2))
	a.acquire(1, api.Shared, -4, true)
	a.takes("P1609", asks(4, 4, 0), ps{refuses(4, 4, api.ErrHeld)})
	a.owns("P1609", 1, []int{-4})
	a.takes("P1609: the Id is free again", asks(3, 2, 0), ps{refuses(3, 2, api.ErrFull)})

	small, _ := locks.New(1, 8)
	e, err := New(a.s, small, 2, 3, 4)
	must(t, "New", err)
	e.Start(api.ModeSource)
	if o, err := e.Receive(asks(1, 4, 0)); err != api.OK || !sameOut(o, api.Out{Packets: ps{refuses(1, 4, api.ErrRange)}}) {
		t.Errorf("P1609: a table of one extent: %s, %v", tell(o), err)
	}
}

// TestManyHeld: ahead bounds what a target asks for, not what a source holds.
func TestManyHeld(t *testing.T) {
	a := started(t, api.ModeSource)
	for i := range uint32(40) {
		var p ps
		if i < 2 {
			p = ps{same(i+1, 4*i)}
		}
		a.takes("P1609", asks(i+1, i%2*4, 0), p)
	}
	a.tells("P1619", api.Progress{Mode: 1, Left: 8, Flight: 40, Same: 2})
}

// TestStop: the chapter's example 9, and more extents.
func TestStop(t *testing.T) {
	a := started(t, api.ModeSource)
	a.takes("P1609", asks(1, 0, 0), ps{same(1, 0)})
	a.takes("P1609", asks(2, 1, 0), nil)
	a.takes("P1609", asks(3, 2, 0), nil)
	a.acquire(0, api.Shared, 7, false)
	a.gives("example 9", a.e.Stop(), nil, 7)
	a.owns("example 9", 0, []int{7})
	a.tells("P1618", api.Progress{Same: 1})
	a.marks("P1618: nothing is cleaned", upTo(0, 7), upTo(0, 7))
	a.wrong("P1618", acks(1, 0))
	a.gives("P1618: idle", a.e.Stop(), nil)
	a.granted("P1618: forgotten", -2, nil)
}

// TestStopInOrder: in the order in which they were taken, whatever their Ids are.
func TestStopInOrder(t *testing.T) {
	x := usual
	x.blocks = 40
	a := newSide(t, x, true)
	a.start(api.ModeSource)
	ids := []uint32{500, 3, 77, 2147483647, 1, 40, 41, 2, 1000, 64}
	for i, id := range ids {
		extent := (i * 7) % 10
		a.takes("P1609", asks(id, uint32(4*extent), 0), ps{same(id, uint32(4*extent))})
		a.acquire(extent, api.Shared, 100+i, false)
		a.acquire(extent, api.Shared, -100-i, false) // a stranger with a negative number
	}
	a.acquire(0, api.Exclusive, 7, false)
	var want []int
	for i := range ids {
		want = append(want, 100+i, -100-i)
	}
	a.gives("P1618", a.e.Stop(), nil, want...)
}

// TestStopRow: places in the row are given back too, and whom that lets in is told in its turn.
func TestStopRow(t *testing.T) {
	a := started(t, api.ModeSource)
	a.acquire(0, api.Shared, 7, true)
	a.acquire(1, api.Shared, 8, true)
	a.takes("P1609", asks(9, 4, 0), nil)
	a.takes("P1609", asks(2, 0, 0), nil)
	a.acquire(0, api.Shared, 10, false)
	a.acquire(1, api.Shared, 11, false)
	a.takes("P1609", asks(5, 1, 0), nil)
	a.acquire(0, api.Shared, 12, false)
	a.gives("P1618", a.e.Stop(), nil, 11, 10, 12)
	a.owns("P1618", 0, []int{7, 10, 12})
	a.owns("P1618", 1, []int{8, 11})
}

// TestStopElsewhere: a target and a verify source have no locks.
func TestStopElsewhere(t *testing.T) {
	for _, mode := range []int{api.ModeTarget, api.ModeVerifySource, api.ModeVerifyTarget} {
		v := started(t, mode)
		v.e.Tick()
		v.acquire(0, api.Exclusive, -1, true)
		v.acquire(0, api.Shared, 7, false)
		v.gives("P1618", v.e.Stop(), nil)
		v.owns("P1618", 0, []int{-1}, 7)
		v.tells("P1618", api.Progress{})
		v.start(mode)
	}
}

// TestCached: what is cached at the target is made durable where it is found the same.
func TestCached(t *testing.T) {
	b := newSide(t, usual, true)
	must(t, "Apply", b.s.Apply(0, fill(3)))
	must(t, "Apply", b.s.Apply(1, fill(4)))
	must(t, "Apply", b.s.Apply(7, fill(5)))
	b.start(api.ModeTarget)
	b.ticks("P1604", asks(1, 0, 3), asks(2, 1, 4), asks(3, 2, 0))
	flushes := b.d.Counts().Flushes
	b.takes("P1605", same(3, 2), ps{acks(3, 2)})
	if b.d.Counts().Flushes != flushes || b.s.Waiting(0) != 1 {
		t.Error("P1605: no Flush, as the block has nothing cached")
	}
	b.takes("P1606: past the cache", ships(2, 1, 9), ps{acks(2, 1)})
	b.durable("P1606", 1, 9)
	if b.d.Counts().Flushes != flushes || b.s.Waiting(0) != 1 || b.s.Waiting(1) != 0 {
		t.Error("P1606: no Flush")
	}
	b.takes("P1605", same(1, 0), ps{acks(1, 0)})
	b.durable("P1605", 0, 3)
	b.durable("P1605: a Flush makes all durable", 7, 5)
}

// TestData: a SyncData has just as many bytes as a block.
func TestData(t *testing.T) {
	b := started(t, api.ModeTarget)
	b.ticks("P1604", asks(1, 0, 0), asks(2, 1, 0), asks(3, 2, 0))
	for _, n := range []int{0, 1, 127, 129, 256, 1024} {
		b.wrong("P1606: the size", api.Packet{Cmd: api.CmdSyncData, Id: 1, Data: make([]byte, n)})
	}
	b.wrong("P1606: another block", ships(1, 1, 9))
	b.wrong("P1606: no such Id", ships(4, 0, 9))
	b.takes("P1606", ships(1, 0, 9), ps{acks(1, 0)})
	b.wrong("P1606: in flight no more", ships(1, 0, 9))
	b.wrong("P1605: another block", same(2, 2))
	b.wrong("P1605: no such Id", same(1, 1))
	b.wrong("P1607: another block", refuses(2, 2, 4))
	b.wrong("P1607: no such Id", refuses(1, 1, 4))
}

// TestCheckpoints: with each 16th block that a run has cleaned.
func TestCheckpoints(t *testing.T) {
	x := shape{blocks: 40, size: 128, waiters: 64, rate: 40, burst: 40, ahead: 40}
	b := newSide(t, x, true)
	b.start(api.ModeTarget)
	if n := len(b.e.Tick().Packets); n != 40 {
		t.Fatalf("P1604: %d requests", n)
	}
	b.s.Clean(3) // whether it was marked or not
	for i := range uint32(40) {
		p := same(i+1, i)
		if i%3 == 0 {
			p = ships(i+1, i, 7)
		}
		want := ps{acks(i+1, i)}
		if i == 39 {
			want = append(want, done(14))
		}
		b.takes("P1605", p, want)
		switch {
		case i < 15:
			b.marks("no Checkpoint yet", without(upTo(int(i+1), 39), 3), upTo(0, 39))
		case i < 31:
			b.marks("a Checkpoint with the 16th", upTo(int(i+1), 39), upTo(16, 39))
		case i < 39:
			b.marks("a Checkpoint with the 32nd", upTo(int(i+1), 39), upTo(32, 39))
		}
	}
	b.marks("P1608", nil, nil)
	if seq := b.s.Super().Seq; seq != 4 {
		t.Errorf("Seq %d, want three Checkpoints", seq)
	}
}

func without(list []int, x int) []int {
	var rest []int
	for _, i := range list {
		if i != x {
			rest = append(rest, i)
		}
	}
	return rest
}

// TestCheckpointsAtSource: likewise; and a run's count does not go on in the next one.
func TestCheckpointsAtSource(t *testing.T) {
	x := shape{blocks: 24, size: 128, waiters: 64, rate: 40, burst: 40, ahead: 40}
	a := newSide(t, x, true)
	take := func(id, block uint32) {
		t.Helper()
		a.takes("P1609", asks(id, block, 0), ps{same(id, block)})
		a.takes("P1612", acks(id, block), nil)
	}
	a.start(api.ModeSource)
	for i := range uint32(15) {
		take(i+1, i)
	}
	a.marks("no Checkpoint yet", upTo(15, 23), upTo(0, 23))
	a.gives("P1618", a.e.Stop(), nil)
	a.start(api.ModeSource)
	for i := range uint32(15) {
		take(i+1, i)
	}
	a.marks("counted anew", upTo(15, 23), upTo(0, 23))
	take(100, 20)
	a.marks("the 16th of this run", without(upTo(15, 23), 20), without(upTo(15, 23), 20))
	// A refused request cleans nothing.
	a.d.Spoil(21)
	for i := range uint32(20) {
		a.takes("P1610", asks(200+i, 21, 0), ps{refuses(200+i, 21, api.ErrMedium)})
	}
	if seq := a.s.Super().Seq; seq != 2 {
		t.Errorf("Seq %d, want one Checkpoint", seq)
	}
}

// TestCheckpointRefused: an error of Checkpoint but ErrPower is passed over.
func TestCheckpointRefused(t *testing.T) {
	x := shape{blocks: 17, size: 128, waiters: 64, rate: 40, burst: 40, ahead: 40, full: true}
	a, b := newSide(t, x, true), newSide(t, x, true)
	if e := a.s.Checkpoint(); e != api.ErrFull {
		t.Fatalf("Checkpoint: %v", e)
	}
	a.start(api.ModeSource)
	b.start(api.ModeTarget)
	asked := b.e.Tick().Packets
	if len(asked) != 17 {
		t.Fatalf("P1604: %d requests", len(asked))
	}
	for i, p := range asked {
		a.takes("P1609", p, ps{same(p.Id, p.Block)})
		want := ps{acks(p.Id, p.Block)}
		if i == 16 {
			want = append(want, done(0))
		}
		b.takes("P1605", same(p.Id, p.Block), want)
		a.takes("P1612", acks(p.Id, p.Block), nil)
	}
	a.takes("P1613", done(0), nil)
	a.tells("P1613", api.Progress{Same: 17})
	b.tells("P1608", api.Progress{Same: 17})
}
