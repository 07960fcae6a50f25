package resync

import (
	"crypto/sha256"
	"testing"

	"replica/api"
)

// fitting: of each command that is taken a packet that fits the side that started gives.
func fitting(cmd int) api.Packet {
	switch cmd {
	case api.CmdSumRequest:
		return asks(50, 7, 0)
	case api.CmdInSync:
		return same(1, 0)
	case api.CmdSyncData:
		return ships(1, 0, 9)
	case api.CmdNegAck:
		return refuses(1, 0, 4)
	case api.CmdSyncAck:
		return acks(1, 0)
	case api.CmdVerifyRequest:
		return looksFor(1, 0, 0)
	case api.CmdVerifyReply:
		return replies(1, 0, 1)
	}
	return api.Packet{Cmd: cmd}
}

// others: packets of the other commands that layer 7 writes.
func others() ps {
	return ps{
		{Cmd: api.CmdFeature, Id: 86, Count: 90}, {Cmd: api.CmdChallenge, Data: make([]byte, 16)}, {Cmd: api.CmdResponse},
		{Cmd: api.CmdSizes, Block: 8, Count: 128}, {Cmd: api.CmdIds}, {Cmd: api.CmdState},
		{Cmd: api.CmdBits, Count: 1, Data: make([]byte, 8)}, {Cmd: api.CmdData, Id: 1, Epoch: 1, Data: fill(9)},
		{Cmd: api.CmdZero, Id: 1, Epoch: 1}, word(api.CmdRecvAck, 1, 0), word(api.CmdWriteAck, 1, 0),
		{Cmd: api.CmdBarrier, Epoch: 1, Count: 1}, {Cmd: api.CmdBarrierAck, Epoch: 1, Count: 1}, {Cmd: api.CmdGens},
		word(api.CmdReadRequest, 1, 0), {Cmd: api.CmdReadReply, Id: 1, Data: fill(9)},
	}
}

// taken: the commands that a mode takes.
var taken = [][]int{
	api.ModeIdle:         {},
	api.ModeSource:       {api.CmdSumRequest, api.CmdSyncAck, api.CmdSyncDone},
	api.ModeTarget:       {api.CmdInSync, api.CmdSyncData, api.CmdNegAck},
	api.ModeVerifySource: {api.CmdVerifyReply},
	api.ModeVerifyTarget: {api.CmdVerifyRequest, api.CmdVerifyDone},
}

// inMode: a side in that mode, with request 1 for block 0 in flight, or served.
func inMode(t *testing.T, mode int) *side {
	t.Helper()
	v := newSide(t, usual, true)
	if mode == api.ModeIdle {
		return v
	}
	v.start(mode)
	v.e.Tick()
	if mode == api.ModeSource {
		v.takes("P1609", asks(1, 0, 0), ps{same(1, 0)})
	}
	return v
}

func TestCommands(t *testing.T) {
	for mode := range taken {
		v := inMode(t, mode)
		for _, p := range others() {
			v.wrong("P1603: a command of another layer", p)
		}
		for cmd := -1; cmd <= 27; cmd++ {
			v.wrong("P1603: not as layer 7 writes it", api.Packet{Cmd: cmd, Id: 1, Epoch: 3, Data: fill(1)})
		}
		for other, cmds := range taken {
			for _, cmd := range cmds {
				if other != mode {
					v.wrong("P1603: a command of another mode", fitting(cmd))
				}
			}
		}
		for _, cmd := range taken[mode] {
			spoilt(t, mode, cmd)
			v := inMode(t, mode)
			if cmd == api.CmdSyncDone {
				v.wrong("P1613: a request is held", fitting(cmd))
				v.takes("P1612", acks(1, 0), nil)
				v.wrong("P1613: a block is marked", fitting(cmd))
				for b := range 8 {
					v.s.Clean(b)
				}
				v.takes("P1609", asks(2, 0, 0), ps{same(2, 0)})
				v.wrong("P1613: a request is held, though none is marked", fitting(cmd))
				v.takes("P1612", acks(2, 0), nil)
			}
			if _, e := v.e.Receive(fitting(cmd)); e != api.OK {
				t.Errorf("P1603: mode %d, command %d: %v", mode, cmd, e)
			}
		}
	}
}

// spoilt: one field of a packet that fits is changed so that layer 7 does not write it, or so that it names a block that is not there.
func spoilt(t *testing.T, mode, cmd int) {
	t.Helper()
	v := inMode(t, mode)
	if cmd == api.CmdSyncDone {
		v.takes("P1612", acks(1, 0), nil)
		for b := range 8 {
			v.s.Clean(b)
		}
	}
	change := func(what string, act func(p *api.Packet)) {
		t.Helper()
		p := fitting(cmd)
		act(&p)
		v.wrong("P1603: "+what, p)
	}
	change("Epoch", func(p *api.Packet) { p.Epoch = 1 })
	change("Gens", func(p *api.Packet) { p.Gens.Old2 = 1 })
	change("Block", func(p *api.Packet) { p.Block = 4096 })
	change("Block", func(p *api.Packet) { p.Block = 8 })
	change("Block", func(p *api.Packet) { p.Block = 1<<32 - 1 })
	change("Id", func(p *api.Packet) { p.Id = 1 << 31 })
	change("Flags", func(p *api.Packet) { p.Flags = 256 })
	change("Cmd", func(p *api.Packet) { p.Cmd += 1 << 32 })
	if fitting(cmd).Id != 0 {
		change("Id", func(p *api.Packet) { p.Id = 0 })
		change("Count", func(p *api.Packet) { p.Count = 1 })
	}
	if cmd != api.CmdSumRequest && cmd != api.CmdVerifyRequest {
		change("Sum", func(p *api.Packet) { p.Sum[31] = 1 })
	}
	if cmd != api.CmdSyncData {
		change("Data", func(p *api.Packet) { p.Data = []byte{0} })
	}
}

// TestPace: tokens go to blocks alone, and come with each Tick, also while ahead requests are in flight.
func TestPace(t *testing.T) {
	x := shape{blocks: 12, size: 128, waiters: 9, rate: 1, burst: 3, ahead: 4}
	b := newSide(t, x, true)
	b.start(api.ModeTarget)
	b.ticks("P1604: burst tokens at the Start, and no more by the Tick", asks(1, 0, 0), asks(2, 1, 0), asks(3, 2, 0))
	b.ticks("P1604: rate tokens", asks(4, 3, 0))
	b.ticks("P1604: ahead are in flight")
	b.ticks("P1604: ahead are in flight")
	b.takes("P1607", refuses(1, 0, 4), nil)
	b.takes("P1607", refuses(2, 1, 4), nil)
	b.takes("P1607", refuses(3, 2, 4), nil)
	b.takes("P1607", refuses(4, 3, 4), nil)
	b.ticks("P1604: the tokens that came meanwhile", asks(5, 4, 0), asks(6, 5, 0), asks(7, 6, 0))
	b.ticks("P1604: rate tokens", asks(8, 7, 0))
	b.takes("P1607", refuses(5, 4, 4), nil)
	b.takes("P1607", refuses(6, 5, 4), nil)
	b.ticks("P1604: rate tokens", asks(9, 8, 0))
	b.takes("P1607", refuses(7, 6, 4), nil)
	b.takes("P1607", refuses(8, 7, 4), nil)
	b.takes("P1607", refuses(9, 8, 4), nil)
	b.ticks("P1604", asks(10, 9, 0))
	b.ticks("P1604", asks(11, 10, 0))
	b.ticks("P1604", asks(12, 11, 0))
	b.ticks("P1604: the walk is through")
	b.ticks("P1604: the walk is through")
	b.takes("P1607", refuses(10, 9, 4), nil)
	b.ticks("P1604: and two are in flight")
	b.takes("P1607", refuses(11, 10, 4), nil)
	b.takes("P1607", refuses(12, 11, 4), nil)
	b.ticks("P1604: begun anew, with the tokens that nobody took", asks(13, 0, 0), asks(14, 1, 0), asks(15, 2, 0))
}

// TestPaceOfVerify: a block that cannot be read costs a token, the end of the walk none.
func TestPaceOfVerify(t *testing.T) {
	x := shape{blocks: 5, size: 128, waiters: 9, rate: 1, burst: 2, ahead: 2}
	a := newSide(t, x, false)
	a.d.Spoil(0)
	a.d.Spoil(3)
	a.start(api.ModeVerifySource)
	a.tells("P1619", api.Progress{Mode: 3, Left: 5})
	a.ticks("P1615", looksFor(1, 1, 0))
	a.tells("P1615", api.Progress{Mode: 3, Left: 3, Flight: 1, Found: 1})
	a.marks("P1615: Mark stores it", []int{0}, []int{0})
	a.ticks("P1615", looksFor(2, 2, 0))
	a.ticks("P1615: ahead are in flight")
	a.takes("P1616", replies(1, 1, 0), nil)
	a.ticks("P1615: two tokens, one for the block that cannot be read", looksFor(3, 4, 0))
	a.tells("P1615", api.Progress{Mode: 3, Flight: 2, Found: 2, Same: 1})
	a.wrong("P1616: another block", replies(3, 2, 1))
	a.wrong("P1616: no such Id", replies(1, 1, 1))
	a.takes("P1616", replies(3, 4, 1), nil)
	a.takes("P1616: the end", replies(2, 2, 0), ps{verified(3)})
	a.tells("P1616", api.Progress{Same: 2, Found: 3})
	a.marks("P1616", []int{0, 3, 4}, []int{0, 3, 4})
}

// TestVerifyAllBlocks: every block is asked for, whatever the device's size, and marked or not.
func TestVerifyAllBlocks(t *testing.T) {
	for _, blocks := range []int{1, 2, 63, 64, 65, 127, 128, 129, 4096} {
		x := shape{blocks: blocks, size: 128, waiters: 1, rate: 1024, burst: 1024, ahead: 64}
		a := newSide(t, x, blocks%2 == 0)
		a.start(api.ModeVerifySource)
		a.tells("P1602", api.Progress{Mode: 3, Left: blocks})
		asked := 0
		for range blocks {
			for _, p := range a.e.Tick().Packets {
				if !samePacket(p, looksFor(uint32(asked+1), uint32(asked), 0)) {
					t.Fatalf("P1615: of %d blocks: %s, want block %d", blocks, tellPacket(p), asked)
				}
				asked++
				var end ps
				if asked == blocks {
					end = ps{verified(0)}
				}
				a.takes("P1616", replies(p.Id, p.Block, 0), end)
			}
		}
		a.tells("P1616", api.Progress{Same: blocks})
	}
}

// TestVerifyUnreadableOnly: nothing is asked, and the end comes by the Tick.
func TestVerifyUnreadableOnly(t *testing.T) {
	x := shape{blocks: 3, size: 128, waiters: 9, rate: 2, burst: 2, ahead: 1}
	a := newSide(t, x, false)
	for b := range 3 {
		a.d.Spoil(b)
	}
	a.start(api.ModeVerifySource)
	a.ticks("P1615")
	a.tells("P1615", api.Progress{Mode: 3, Left: 1, Found: 2})
	a.ticks("P1615: the end", verified(3))
	a.tells("P1615", api.Progress{Found: 3})
}

// TestVerifyTarget: it answers, and nothing is kept of what it answered.
func TestVerifyTarget(t *testing.T) {
	b := newSide(t, usual, false)
	b.lay(5, 7)
	b.d.Spoil(2)
	b.start(api.ModeVerifyTarget)
	b.takes("P1617", looksFor(1, 0, 0), ps{replies(1, 0, 0)})
	b.takes("P1617: again", looksFor(1, 0, 0), ps{replies(1, 0, 0)})
	b.takes("P1617: it differs", looksFor(9, 5, 0), ps{replies(9, 5, 1)})
	b.takes("P1617: it cannot be read", looksFor(2, 2, 0), ps{replies(2, 2, 1)})
	b.takes("P1617: nor is there a digest of it", api.Packet{Cmd: api.CmdVerifyRequest, Id: 3, Block: 2}, ps{replies(3, 2, 1)})
	b.takes("P1617: not even that of no bytes", api.Packet{Cmd: api.CmdVerifyRequest, Id: 4, Block: 2, Sum: sha256.Sum256(nil)}, ps{replies(4, 2, 1)})
	must(t, "Apply", b.s.Apply(1, fill(4)))
	b.takes("P1617: as it is read", looksFor(4, 1, 4), ps{replies(4, 1, 0)})
	b.marks("P1617", []int{2, 5}, []int{2, 5})
	b.tells("P1617", api.Progress{Mode: 4, Same: 3, Found: 4})
	b.ticks("P1614")
	b.takes("P1617: whatever its Count says", verified(77), nil)
	b.tells("P1617", api.Progress{Same: 3, Found: 4})
	b.wrong("P1603: idle", verified(3))
}

// TestVerifyExample: the chapter's example 10.
func TestVerifyExample(t *testing.T) {
	a, b := newSide(t, usual, false), newSide(t, usual, false)
	b.lay(5, 7)
	a.start(api.ModeVerifySource)
	b.start(api.ModeVerifyTarget)
	blocks := 0
	for tick := range 4 {
		asked := a.e.Tick().Packets
		if want := []int{3, 2, 2, 1}[tick]; len(asked) != want {
			t.Fatalf("P1615: tick %d: %d requests", tick, len(asked))
		}
		for _, p := range asked {
			if p.Block != uint32(blocks) || p.Id != uint32(blocks+1) || !samePacket(p, looksFor(p.Id, p.Block, 0)) {
				t.Fatalf("example 10: %s", tellPacket(p))
			}
			blocks++
			flags := uint32(0)
			if p.Block == 5 {
				flags = 1
			}
			b.takes("example 10", p, ps{replies(p.Id, p.Block, flags)})
			var want ps
			if p.Block == 7 {
				want = ps{verified(1)}
			}
			a.takes("example 10", replies(p.Id, p.Block, flags), want)
		}
	}
	b.takes("example 10", verified(1), nil)
	for _, v := range []*side{a, b} {
		v.tells("example 10", api.Progress{Found: 1, Same: 7})
		v.marks("example 10", []int{5}, []int{5})
	}
}

// TestTickElsewhere: a source and a verify target have nothing to do by a Tick.
func TestTickElsewhere(t *testing.T) {
	for _, mode := range []int{api.ModeIdle, api.ModeSource, api.ModeVerifyTarget} {
		v := inMode(t, mode)
		before := v.looks()
		v.ticks("P1614")
		v.stays("P1614", before)
	}
}

// TestEndOfMarks: a target ends where no block is marked and none in flight, whoever cleaned them.
func TestEndOfMarks(t *testing.T) {
	b := started(t, api.ModeTarget)
	b.ticks("P1604", asks(1, 0, 0), asks(2, 1, 0), asks(3, 2, 0))
	for i := range 8 {
		b.s.Clean(i)
	}
	b.takes("P1607", refuses(2, 1, 4), nil)
	b.ticks("P1604: the walk goes on, by the bits of its beginning", asks(4, 3, 0), asks(5, 4, 0))
	b.takes("P1607", refuses(1, 0, 4), nil)
	b.takes("P1607", refuses(3, 2, 4), nil)
	b.takes("P1607", refuses(4, 3, 4), nil)
	b.takes("P1607, P1608", refuses(5, 4, 4), ps{done(0)})
	b.marks("P1608: a Checkpoint", nil, nil)

	c := started(t, api.ModeTarget)
	for i := range 8 {
		c.s.Clean(i)
	}
	c.ticks("P1604: the walk is asked for ahead of the end", asks(1, 0, 0), asks(2, 1, 0), asks(3, 2, 0))

	d := newSide(t, shape{blocks: 2, size: 128, waiters: 1, rate: 1, burst: 1, ahead: 1}, true)
	d.start(api.ModeTarget)
	d.ticks("P1604", asks(1, 0, 0))
	d.takes("P1607", refuses(1, 0, 4), nil)
	d.ticks("P1604", asks(2, 1, 0))
	d.takes("P1607", refuses(2, 1, 4), nil)
	d.s.Clean(0)
	d.s.Clean(1)
	d.ticks("P1604, P1608: the walk is through, and none is marked", done(0))
	d.tells("P1608", api.Progress{})
}

// TestMarkedMeanwhile: a block that is marked behind the walk's beginning is asked for in the next one, which begins at the superblock's Mark of then.
func TestMarkedMeanwhile(t *testing.T) {
	b := newSide(t, usual, false)
	for _, block := range []int{5, 6, 7} {
		b.s.Mark(block)
	}
	must(t, "Checkpoint", b.s.Checkpoint())
	b.start(api.ModeTarget)
	b.ticks("P1604", asks(1, 5, 0), asks(2, 6, 0), asks(3, 7, 0))
	b.s.Mark(1)
	b.takes("P1605", same(1, 5), ps{acks(1, 5)})
	b.takes("P1605", same(2, 6), ps{acks(2, 6)})
	b.ticks("P1604: one is in flight")
	b.takes("P1607", refuses(3, 7, 4), nil)
	b.ticks("P1604: from Mark on", asks(4, 1, 0), asks(5, 7, 0))
	b.takes("P1605", same(4, 1), ps{acks(4, 1)})
	b.takes("P1605", same(5, 7), ps{acks(5, 7), done(0)})
}

// TestDown: a store that somebody else's call brought down.
func TestDown(t *testing.T) {
	v := newSide(t, usual, true)
	v.down()
	if o, e := v.e.Start(api.ModeTarget); e != api.ErrPower || !sameOut(o, api.Out{}) {
		t.Errorf("P1602: a target of a store that is down: %v", e)
	}
	v.tells("the power", api.Progress{})
	v.start(api.ModeSource)
	v.tells("P1619", api.Progress{Mode: 1})
	v.wrong("P1603: it has no blocks", asks(1, 0, 0))
	v.wrong("P1603: it has no blocks", acks(1, 0))
	if o, e := v.e.Receive(done(0)); e != api.ErrPower || !sameOut(o, api.Out{}) {
		t.Errorf("P1613: the Checkpoint of a store that is down: %v", e)
	}
	v.tells("the power", api.Progress{})
	v.start(api.ModeVerifyTarget)
	v.wrong("P1603: it has no blocks", looksFor(1, 0, 0))
	v.takes("P1617: no Block is named", verified(0), nil)
	v.start(api.ModeVerifySource)
	v.tells("P1602: no blocks", api.Progress{Mode: 3})
	v.wrong("P1603: it has no blocks", replies(1, 0, 0))
	v.ticks("P1615: nothing to ask for", verified(0))
	v.tells("P1615", api.Progress{})
}

// TestDownMeanwhile: it goes down while a run goes on, by somebody else's call.
func TestDownMeanwhile(t *testing.T) {
	b := inMode(t, api.ModeTarget)
	b.down()
	for _, p := range []api.Packet{same(1, 0), ships(1, 0, 9), refuses(1, 0, 4)} {
		b.wrong("P1603: it has no blocks", p)
	}
	b.tells("P1619", api.Progress{Mode: 2, Flight: 3})
	b.ticks("the power: a block cannot be read")
	b.tells("the power", api.Progress{})

	a := inMode(t, api.ModeSource)
	a.takes("P1609", asks(2, 1, 0), nil)
	a.down()
	for _, p := range []api.Packet{acks(1, 0), asks(3, 4, 0), done(0)} {
		a.wrong("P1603: it has no blocks", p)
	}
	a.tells("P1619", api.Progress{Mode: 1, Flight: 2, Same: 1})
	a.granted("the power", -2, nil)
	a.tells("the power", api.Progress{Same: 1})
	a.owns("the power: locks stay", 0, []int{-1}, -2)
	a.gives("P1618: idle", a.e.Stop(), nil)

	c := inMode(t, api.ModeSource)
	c.takes("P1609", asks(2, 1, 0), nil)
	c.down()
	c.acquire(0, api.Shared, 7, false)
	c.gives("P1618: the store is not asked", c.e.Stop(), nil, 7)

	d := inMode(t, api.ModeVerifySource)
	d.down()
	d.wrong("P1603: it has no blocks", replies(1, 0, 1))
	d.tells("P1602: the walk stays", api.Progress{Mode: 3, Left: 5, Flight: 3})
	d.ticks("the power")
	d.tells("the power", api.Progress{})
}

// TestDownAtTheEnd: a target whose walk is through finds a store that is down by its Checkpoint, or waits.
func TestDownAtTheEnd(t *testing.T) {
	b := newSide(t, shape{blocks: 1, size: 128, waiters: 1, rate: 1, burst: 1, ahead: 2}, true)
	b.start(api.ModeTarget)
	b.ticks("P1604", asks(1, 0, 0))
	b.down()
	b.ticks("P1604: one is in flight")
	b.tells("P1608: one is in flight", api.Progress{Mode: 2, Flight: 1})

	c := newSide(t, shape{blocks: 1, size: 128, waiters: 1, rate: 1, burst: 1, ahead: 2}, true)
	c.start(api.ModeTarget)
	c.ticks("P1604", asks(1, 0, 0))
	c.takes("P1607", refuses(1, 0, 4), nil)
	c.down()
	c.ticks("the power: by P1608's Checkpoint")
	c.tells("the power", api.Progress{})
}
