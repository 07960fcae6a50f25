package repl

import (
	"bytes"
	"slices"
	"testing"

	"replica/api"
	"replica/store"
)

// story: a primary and its backup, the packets on their way between them, and others who lock extents of the primary.
type story struct {
	t        *testing.T
	dice     dice
	x        shape
	a, b     *desk
	toA, toB []api.Packet
	id       int
	array    map[int][]byte // by block: the last write that was handed over
	want     map[int][]byte // by the id of a read: what it must answer
	writes   map[int]int    // by the id of a write that was not sent: its block
	mine     map[int]int    // by other owners: the extents that they hold or wait for
	holding  map[int]int    // by other owners: 1, if they hold it
	copying  map[int]int    // by other owners: blocks that are on their way to the backup
	cleans   bool           // others bring marked blocks over, and take the marks away
	spoils   bool
	open     []api.Packet   // writes that were sent and are not settled
	alone    map[int]int    // blocks that the peer may lack for good
	has      map[int][]byte // what the peer has made durable, as far as the primary knows
	dead     bool
	answers  int
}

func newStory(t *testing.T, seed int, x shape) *story {
	t.Helper()
	return &story{t: t, dice: dice(seed), x: x, a: newDesk(t, x), b: newDesk(t, x), array: map[int][]byte{}, want: map[int][]byte{}, writes: map[int]int{},
		mine: map[int]int{}, holding: map[int]int{}, copying: map[int]int{}, alone: map[int]int{}, has: map[int][]byte{}}
}

func (y *story) blank() []byte { return make([]byte, y.x.size) }

// lastOf is what an array has at a block.
func (y *story) lastOf(array map[int][]byte, block int) []byte {
	if data, ok := array[block]; ok {
		return data
	}
	return y.blank()
}

// drive takes what the primary gave out.
func (y *story) drive(o api.Out) {
	y.t.Helper()
	for _, p := range o.Packets {
		if p.Cmd == api.CmdData || p.Cmd == api.CmdZero {
			y.open = append(y.open, p)
			delete(y.writes, int(p.Id))
		}
		y.toB = append(y.toB, p)
	}
	for _, a := range o.Answers {
		y.answers++
		want, isRead := y.want[a.Id]
		if isRead && a.Err == api.OK && !bytes.Equal(a.Data, want) {
			y.t.Fatalf("P1409: read %d: %.4q, want %.4q", a.Id, a.Data, want)
		}
		if !isRead && (a.Err != api.OK || len(a.Data) != 0) {
			y.t.Fatalf("operation %d: %v", a.Id, a.Err)
		}
		delete(y.want, a.Id)
		if block, ok := y.writes[a.Id]; ok {
			y.alone[block] = 1
			delete(y.writes, a.Id)
		}
	}
	for _, owner := range o.Granted {
		y.holding[owner] = 1
	}
	y.covered()
}

// covered: P1410, behind every call.
func (y *story) covered() {
	y.t.Helper()
	if y.cleans || y.dead {
		return
	}
	covered := y.a.s.Covered()
	for _, p := range y.open {
		if !slices.Contains(covered, int(p.Block)/4) {
			y.t.Fatalf("P1410: block %d is not settled and not covered: %v", p.Block, covered)
		}
	}
	for block := range y.alone {
		if !slices.Contains(covered, block/4) {
			y.t.Fatalf("P1410: block %d was written without a peer and is not covered: %v", block, covered)
		}
	}
}

func (y *story) died(e api.Errno) bool {
	y.dead = y.dead || e == api.ErrPower || !y.a.d.On()
	return y.dead
}

func (y *story) submit() {
	y.t.Helper()
	y.id++
	op := api.Op{Id: y.id, Kind: 1 + y.dice.below(4), Block: y.dice.below(y.x.blocks)}
	switch op.Kind {
	case api.OpFlush:
		op.Block = 0
	case api.OpWrite:
		op.Data = bytes.Repeat([]byte{byte(y.id), byte(y.id >> 8)}, y.x.size/2)
	case api.OpRead:
		y.want[op.Id] = y.lastOf(y.array, op.Block)
	}
	o, e := y.a.e.Submit(op)
	if y.died(e) {
		return
	}
	if e != api.OK {
		delete(y.want, op.Id)
		return
	}
	switch op.Kind {
	case api.OpWrite:
		y.array[op.Block] = op.Data
		y.writes[op.Id] = op.Block
	case api.OpZero:
		y.array[op.Block] = y.blank()
		y.writes[op.Id] = op.Block
	}
	y.drive(o)
}

// deliver hands one packet on, in order.
func (y *story) deliver() {
	y.t.Helper()
	if len(y.toB) > 0 && (len(y.toA) == 0 || y.dice.below(2) == 0) {
		p := y.toB[0]
		y.toB = y.toB[1:]
		if p.Cmd == api.CmdSyncData {
			y.copied(p)
			return
		}
		o, e := y.b.e.Receive(p)
		if e != api.OK {
			y.t.Fatalf("the backup refuses %s: %v", tell(api.Out{Packets: []api.Packet{p}}), e)
		}
		y.toA = append(y.toA, o.Packets...)
		return
	}
	if len(y.toA) == 0 {
		return
	}
	p := y.toA[0]
	y.toA = y.toA[1:]
	if p.Cmd == api.CmdBarrierAck {
		y.settled(p)
	}
	o, e := y.a.e.Receive(p)
	if y.died(e) {
		return
	}
	if e != api.OK {
		y.t.Fatalf("the primary refuses %s: %v", tell(api.Out{Packets: []api.Packet{p}}), e)
	}
	y.drive(o)
}

func (y *story) settled(p api.Packet) {
	for _, w := range y.open {
		if w.Epoch == p.Epoch {
			y.has[int(w.Block)] = w.Data
			if w.Cmd == api.CmdZero {
				y.has[int(w.Block)] = y.blank()
			}
		}
	}
	y.open = slices.DeleteFunc(y.open, func(w api.Packet) bool { return w.Epoch == p.Epoch })
}

func (y *story) connect() {
	if e := y.a.e.Connect(); e == api.OK {
		y.b.e.Connect()
	}
}

func (y *story) disconnect() {
	y.t.Helper()
	y.toA, y.toB = nil, nil
	for owner := range y.copying {
		delete(y.copying, owner)
	}
	for _, p := range y.open {
		y.alone[int(p.Block)] = 1
	}
	y.open = nil
	y.b.e.Disconnect()
	o := y.a.e.Disconnect()
	if !y.died(api.OK) {
		y.drive(o)
	}
}

func (y *story) hold(on bool) {
	y.t.Helper()
	if o := y.a.e.Hold(on); !y.died(api.OK) {
		y.drive(o)
	}
}

// lock: another owner asks for an extent.
func (y *story) lock() {
	y.t.Helper()
	owner, extent := -1-y.dice.below(5), y.dice.below((y.x.blocks+3)/4)
	if _, has := y.mine[owner]; has {
		y.unlock(owner)
		return
	}
	in, e := y.a.l.Acquire(extent, api.Exclusive, owner)
	if e != api.OK {
		return
	}
	y.mine[owner] = extent
	if in {
		y.holding[owner] = 1
	}
}

// unlock: another owner gives its extent back; where it holds it, it may first bring a marked block over.
func (y *story) unlock(owner int) {
	y.t.Helper()
	if _, busy := y.copying[owner]; busy {
		return
	}
	extent := y.mine[owner]
	if block := y.a.s.Next(4 * extent); y.cleans && y.holding[owner] == 1 && y.a.e.Connected() && block >= 0 && block/4 == extent {
		if data, e := y.a.s.Read(block); e == api.OK {
			y.a.s.Through(block, data)
			y.copying[owner] = block
			y.toB = append(y.toB, api.Packet{Cmd: api.CmdSyncData, Id: uint32(-owner), Block: uint32(block), Data: data})
			return
		}
	}
	y.giveBack(owner)
}

func (y *story) copied(p api.Packet) {
	y.t.Helper()
	y.b.s.Through(int(p.Block), p.Data)
	y.a.s.Clean(int(p.Block))
	owner := -int(p.Id)
	delete(y.copying, owner)
	y.giveBack(owner)
}

func (y *story) giveBack(owner int) {
	y.t.Helper()
	extent := y.mine[owner]
	delete(y.mine, owner)
	delete(y.holding, owner)
	granted, _ := y.a.l.Release(extent, owner)
	for _, owner := range granted {
		if owner < 0 {
			y.holding[owner] = 1
			continue
		}
		if o := y.a.e.Granted(owner); !y.died(api.OK) {
			y.drive(o)
		}
	}
}

// spoil: a block of one side, durably as here on the other one, cannot be read any more.
func (y *story) spoil() {
	if y.spoils {
		[]*desk{y.a, y.a, y.b}[y.dice.below(3)].d.Spoil(y.dice.below(y.x.blocks))
	}
}

func (y *story) step() {
	y.t.Helper()
	switch n := y.dice.below(100); {
	case n < 40:
		y.submit()
	case n < 78:
		y.deliver()
	case n < 90:
		y.lock()
	case n < 93:
		y.hold(y.dice.below(3) == 0)
	case n < 96:
		y.spoil()
	case n < 99:
		y.connect()
	default:
		if y.dice.below(4) == 0 {
			y.disconnect()
		}
	}
}

// drain: what is held is let go, every lock is given back, each packet is answered.
func (y *story) drain() {
	y.t.Helper()
	y.hold(false)
	for range 100000 {
		if len(y.toA)+len(y.toB) > 0 {
			y.deliver()
			continue
		}
		if len(y.mine) == 0 {
			break
		}
		owners := []int{}
		for owner := range y.mine {
			owners = append(owners, owner)
		}
		slices.Sort(owners)
		y.unlock(owners[0])
	}
	if n := y.a.e.Pending(); n != 0 || len(y.want) != 0 {
		y.t.Fatalf("P1411: %d operations have no answer, %d of them reads", n, len(y.want))
	}
}

var storyShapes = []shape{
	{8, 128, 2, 100, api.ProtoC, 2, 8},
	{12, 128, 1, 100, api.ProtoC, 3, 20},
	{24, 128, 2, 100, api.ProtoB, 1, 9},
	{24, 128, 2, 100, api.ProtoA, 4, 9},
	{9, 128, 3, 4, api.ProtoA, 1, 30},
	{3, 128, 1, 10, api.ProtoB, 2, 12},
	{40, 256, 4, 100, api.ProtoC, 8, 40},
}

// P1409, P1411: reads tell one array, and everything is answered, whatever is held, locked, copied, spoilt and lost in between.
func TestOneArray(t *testing.T) {
	for i, x := range storyShapes {
		for seed := range 6 {
			y := newStory(t, 100*i+seed, x)
			y.cleans, y.spoils = true, true
			y.connect()
			for range 15 {
				for range 200 {
					y.step()
				}
				y.drain()
			}
			if y.answers < 300 {
				t.Fatalf("%d answers alone", y.answers)
			}
		}
	}
}

// P1410, P1411: nobody takes marks away: what the peer may lack is covered behind every call.
func TestNothingForgotten(t *testing.T) {
	for i, x := range storyShapes {
		for seed := range 6 {
			y := newStory(t, 1000+100*i+seed, x)
			y.connect()
			for range 6 {
				for range 200 {
					y.step()
				}
				y.drain()
				y.equal()
			}
		}
	}
}

// equal: what is not marked is the same on both sides.
func (y *story) equal() {
	y.t.Helper()
	for block := range y.x.blocks {
		here, _ := y.a.s.Read(block)
		there, _ := y.b.s.Read(block)
		if y.a.s.Next(block) != block && !bytes.Equal(here, there) {
			y.t.Fatalf("P1410: block %d differs and is not marked", block)
		}
		if !bytes.Equal(here, y.lastOf(y.array, block)) {
			y.t.Fatalf("P1409: block %d is not the last write's", block)
		}
	}
}

// P1411: the peer is lost at any time, with everything on its way: all is answered.
func TestPeerLost(t *testing.T) {
	for i, x := range storyShapes {
		for seed := range 60 {
			y := newStory(t, 5000+100*i+seed, x)
			y.spoils = true
			y.connect()
			for range 5 + 3*seed {
				y.step()
			}
			y.disconnect()
			y.drain()
		}
	}
}

// P1410: one story again and again, with the power going at each of the primary's writing steps; what the peer may lack is found marked, whatever the picks.
func TestPowerLost(t *testing.T) {
	for i, x := range storyShapes {
		cuts := 0
		for cut := range 5000 {
			y, luck := newStory(t, 9000+i, x), dice(cut)
			y.connect()
			y.a.d.Fuse(cut)
			for range 400 {
				if y.step(); y.dead {
					break
				}
			}
			if !y.dead {
				break
			}
			y.a.wantDead("P1410")
			y.a.d.Crash(picks(&luck))
			y.found()
			cuts++
		}
		if cuts < 50 {
			t.Errorf("the power went %d times alone", cuts)
		}
	}
}

// P1410: the power goes between two calls.
func TestPowerLostBetween(t *testing.T) {
	for i, x := range storyShapes {
		for steps := range 150 {
			y := newStory(t, 12000+i, x)
			y.connect()
			for range 2 * steps {
				y.step()
			}
			y.a.d.Crash(picks(&y.dice))
			y.found()
		}
	}
}

// found opens the primary's disk behind its crash.
func (y *story) found() {
	y.t.Helper()
	s, _, e := store.Open(y.a.d)
	if e != api.OK {
		y.t.Fatalf("P1410: Open: %v", e)
	}
	for _, p := range y.open {
		y.alone[int(p.Block)] = 1
	}
	for block := range y.x.blocks {
		marked := s.Next(block) == block
		if y.alone[block] == 1 && !marked {
			y.t.Fatalf("P1410: block %d, which the peer may lack, is not marked", block)
		}
		if data, _ := s.Read(block); !marked && !bytes.Equal(data, y.lastOf(y.has, block)) {
			y.t.Fatalf("P1410: block %d is not as the peer has it, and is not marked", block)
		}
	}
}
