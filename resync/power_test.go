package resync

import (
	"testing"

	"replica/api"
	"replica/store"
)

// wide: an engine that asks for all at once.
var wide = shape{blocks: 18, size: 128, waiters: 64, rate: 40, burst: 40, ahead: 40}

// cut: a call that meets the power's end at one of its writing steps.
type cut struct {
	name  string
	steps int // how many writing steps the call has
	make  func(t *testing.T) *side
	call  func(v *side) (api.Out, api.Errno)
	// counts tells what Progress tells behind the call, where that many steps came through.
	counts func(through int) api.Progress
	// in and row are the owners of extent 0 behind it.
	in, row []int
}

func receive(p api.Packet) func(v *side) (api.Out, api.Errno) {
	return func(v *side) (api.Out, api.Errno) { return v.e.Receive(p) }
}

// tick: a Tick tells no error; whether the power went the disk tells.
func tick(v *side) (api.Out, api.Errno) {
	out := v.e.Tick()
	if !v.d.On() {
		return out, api.ErrPower
	}
	return out, api.OK
}

// targetAfter: a target all of whose blocks are asked for, and the first of them, up to that number, found the same.
func targetAfter(t *testing.T, n int) *side {
	t.Helper()
	v := newSide(t, wide, true)
	v.start(api.ModeTarget)
	v.e.Tick()
	for i := range uint32(n) {
		v.takes("P1605", same(i+1, i), ps{acks(i+1, i)})
	}
	return v
}

// sourceAfter: a source that has come so far; then request 100, of block 0, is served, and 101 and owner 7 wait behind it.
func sourceAfter(t *testing.T, n int) *side {
	t.Helper()
	v := newSide(t, wide, true)
	v.start(api.ModeSource)
	for i := range uint32(n) {
		v.takes("P1609", asks(i+1, i, 0), ps{same(i+1, i)})
		v.takes("P1612", acks(i+1, i), nil)
	}
	v.takes("P1609", asks(100, 0, 0), ps{same(100, 0)})
	v.takes("P1609", asks(101, 1, 0), nil)
	v.acquire(0, api.Shared, 7, false)
	return v
}

func always(p api.Progress) func(int) api.Progress {
	return func(int) api.Progress { return p }
}

func targetCuts() []cut {
	return []cut{
		{name: "SyncData", steps: 1, make: func(t *testing.T) *side { return targetAfter(t, 3) },
			call: receive(ships(9, 8, 5)), counts: always(api.Progress{Same: 3})},
		{name: "SyncData, the 16th", steps: 3, make: func(t *testing.T) *side { return targetAfter(t, 15) },
			call: receive(ships(16, 15, 5)), counts: func(through int) api.Progress { return api.Progress{Same: 15, Shipped: min(through, 1)} }},
		{name: "InSync, cached", steps: 1,
			make: func(t *testing.T) *side {
				v := newSide(t, wide, true)
				must(t, "Apply", v.s.Apply(8, fill(5)))
				v.start(api.ModeTarget)
				v.e.Tick()
				return v
			},
			call: receive(same(9, 8)), counts: always(api.Progress{})},
		{name: "InSync, the 16th", steps: 2, make: func(t *testing.T) *side { return targetAfter(t, 15) },
			call: receive(same(16, 15)), counts: always(api.Progress{Same: 16})},
		{name: "InSync, the last", steps: 2, make: func(t *testing.T) *side { return targetAfter(t, 17) },
			call: receive(same(18, 17)), counts: always(api.Progress{Same: 18})},
		{name: "NegAck, the last", steps: 2,
			make: func(t *testing.T) *side {
				v := targetAfter(t, 17)
				v.s.Clean(17)
				return v
			},
			call: receive(refuses(18, 17, 4)), counts: always(api.Progress{Same: 17})},
		{name: "Tick, the last", steps: 2,
			make: func(t *testing.T) *side {
				v := targetAfter(t, 17)
				v.takes("P1607", refuses(18, 17, 4), nil)
				v.s.Clean(17)
				return v
			},
			call: tick, counts: always(api.Progress{Same: 17})},
		{name: "Start", steps: 1, make: func(t *testing.T) *side { return newSide(t, wide, false) },
			call: func(v *side) (api.Out, api.Errno) { return v.e.Start(api.ModeTarget) }, counts: always(api.Progress{})},
	}
}

func sourceCuts() []cut {
	both := []int{-101, 7}
	return []cut{
		{name: "SyncAck, the 16th", steps: 2, make: func(t *testing.T) *side { return sourceAfter(t, 15) },
			call: receive(acks(100, 0)), counts: always(api.Progress{Same: 16}), in: []int{-100}, row: both},
		{name: "SumRequest, cached", steps: 1,
			make: func(t *testing.T) *side {
				v := sourceAfter(t, 0)
				must(t, "Apply", v.s.Apply(5, fill(5)))
				return v
			},
			call: receive(asks(102, 5, 5)), counts: always(api.Progress{Same: 1}), in: []int{-100}, row: both},
		{name: "SyncDone", steps: 1,
			make: func(t *testing.T) *side {
				v := newSide(t, wide, false)
				v.start(api.ModeSource)
				return v
			},
			call: receive(done(0)), counts: always(api.Progress{})},
		{name: "Granted, cached", steps: 1,
			make: func(t *testing.T) *side {
				v := sourceAfter(t, 0)
				v.takes("P1612", acks(100, 0), nil, -101)
				must(t, "Apply", v.s.Apply(1, fill(5)))
				return v
			},
			call: func(v *side) (api.Out, api.Errno) {
				was := v.d.On()
				out := v.e.Granted(-101)
				if was && !v.d.On() {
					return out, api.ErrPower
				}
				return out, api.OK
			}, counts: always(api.Progress{Same: 1}), in: []int{-101}, row: []int{7}},
	}
}

func verifyCuts() []cut {
	return []cut{
		{name: "VerifyReply", steps: 1,
			make: func(t *testing.T) *side {
				v := newSide(t, wide, false)
				v.start(api.ModeVerifySource)
				v.e.Tick()
				return v
			},
			call: receive(replies(5, 4, 1)), counts: always(api.Progress{})},
		{name: "VerifyRequest", steps: 1,
			make: func(t *testing.T) *side {
				v := newSide(t, wide, false)
				v.start(api.ModeVerifyTarget)
				v.takes("P1617", looksFor(7, 6, 0), ps{replies(7, 6, 0)})
				return v
			},
			call: receive(looksFor(5, 4, 9)), counts: always(api.Progress{Same: 1})},
		{name: "Tick", steps: 2,
			make: func(t *testing.T) *side {
				v := newSide(t, wide, false)
				v.d.Spoil(3)
				v.d.Spoil(9)
				v.start(api.ModeVerifySource)
				return v
			},
			call:   tick,
			counts: func(through int) api.Progress { return api.Progress{Found: through} }},
	}
}

// TestPower: the call ends where the power goes: it gives nothing, the engine is idle, its requests are forgotten, and their locks stay.
func TestPower(t *testing.T) {
	for _, list := range [][]cut{targetCuts(), sourceCuts(), verifyCuts()} {
		for _, c := range list {
			for through := range c.steps {
				v := c.make(t)
				v.d.Fuse(through)
				o, e := c.call(v)
				if e != api.ErrPower || !sameOut(o, api.Out{}) {
					t.Errorf("the power, %s, behind %d steps: %s, %v", c.name, through, tell(o), e)
				}
				v.tells("the power, "+c.name, c.counts(through))
				v.owns("the power, "+c.name, 0, c.in, c.row...)
				v.gives("P1618: idle", v.e.Stop(), nil)
				v.owns("P1618: idle, "+c.name, 0, c.in, c.row...)
			}
			v := c.make(t)
			v.d.Fuse(c.steps)
			if _, e := c.call(v); e != api.OK {
				t.Errorf("%s with power for all its steps: %v", c.name, e)
			}
			if v.s.Flush(); v.d.On() {
				t.Errorf("%s has not all the %d writing steps", c.name, c.steps)
			}
		}
	}
}

// TestPowerOff: a disk that is without power already is found so by the first read.
func TestPowerOff(t *testing.T) {
	off := func(v *side) *side {
		v.d.Fuse(0)
		v.d.Flush()
		if v.d.On() || v.s.Layout().Blocks == 0 {
			t.Fatal("the disk is to be off, and the store not to know it")
		}
		return v
	}
	for mode, p := range map[int]api.Packet{api.ModeSource: asks(2, 4, 0), api.ModeVerifyTarget: looksFor(1, 0, 0)} {
		v := off(inMode(t, mode))
		if o, e := v.e.Receive(p); e != api.ErrPower || !sameOut(o, api.Out{}) {
			t.Errorf("the power, mode %d: %s, %v", mode, tell(o), e)
		}
		if v.e.Progress().Mode != 0 || v.e.Progress().Flight != 0 {
			t.Errorf("the power, mode %d: %+v", mode, v.e.Progress())
		}
	}
	for _, mode := range []int{api.ModeTarget, api.ModeVerifySource} {
		v := started(t, mode)
		off(v).ticks("the power")
		v.tells("the power", api.Progress{})
	}
	a := inMode(t, api.ModeSource)
	a.takes("P1609", asks(2, 1, 0), nil)
	off(a).granted("the power", -2, nil)
	a.tells("the power", api.Progress{Same: 1})
	a.owns("the power", 0, []int{-1}, -2)
}

// TestPowerAgain: behind a loss of power a new engine goes on with what is stored.
func TestPowerAgain(t *testing.T) {
	v := targetAfter(t, 15)
	v.d.Fuse(2) // the block, and the bitmap, but not the superblock
	if _, e := v.e.Receive(ships(16, 15, 5)); e != api.ErrPower {
		t.Fatalf("the power: %v", e)
	}
	v.d.Crash(nil)
	s, _, e := store.Open(v.d)
	must(t, "Open", e)
	if s.Marked() != 2 || s.Super().Seq != 1 {
		t.Errorf("the Checkpoint: %d marked, Seq %d", s.Marked(), s.Super().Seq)
	}
	v.durable("P1606: ahead of the Checkpoint", 15, 5)
}
