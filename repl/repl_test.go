package repl

import (
	"bytes"
	"math"
	"slices"
	"testing"

	"replica/api"
	"replica/locks"
	"replica/store"
)

// P1401: the edges of the three numbers; what else a resource says does not matter.
func TestNew(t *testing.T) {
	_, s, l := ground(t, usual)
	for _, x := range []struct {
		protocol, epoch, queue int
		want                   api.Errno
	}{
		{1, 1, 1, api.OK}, {3, 64, 256, api.OK}, {2, 64, 1, api.OK}, {1, 1, 256, api.OK},
		{0, 1, 1, api.ErrArg}, {4, 1, 1, api.ErrArg}, {-1, 1, 1, api.ErrArg}, {math.MinInt, 1, 1, api.ErrArg}, {math.MaxInt, 1, 1, api.ErrArg},
		{1, 0, 1, api.ErrArg}, {1, 65, 1, api.ErrArg}, {1, -1, 1, api.ErrArg}, {1, math.MinInt, 1, api.ErrArg}, {1, math.MaxInt, 1, api.ErrArg},
		{1, 1, 0, api.ErrArg}, {1, 1, 257, api.ErrArg}, {1, 1, -1, api.ErrArg}, {1, 1, math.MinInt, api.ErrArg}, {1, 1, math.MaxInt, api.ErrArg},
	} {
		c := api.Config{Name: "?", Blocks: -1, Size: 5, Slots: 99, Window: -7, Rate: math.MaxInt, Protocol: x.protocol, Epoch: x.epoch, Queue: x.queue}
		e, err := New(s, l, c)
		if err != x.want || (e == nil) != (x.want != api.OK) {
			t.Errorf("P1401: New of %+v: %v, %v", x, e != nil, err)
		}
	}
	good := usual.config()
	for i, call := range []func() (*Engine, api.Errno){
		func() (*Engine, api.Errno) { return New(nil, l, good) },
		func() (*Engine, api.Errno) { return New(s, nil, good) },
		func() (*Engine, api.Errno) { return New(nil, nil, api.Config{}) },
	} {
		if e, err := call(); e != nil || err != api.ErrArg {
			t.Errorf("P1401: row %d: %v", i, err)
		}
	}
}

// P1401: as it begins.
func TestNewEngine(t *testing.T) {
	v := newDesk(t, usual)
	v.tells("P1401", 0, 0, 0, 0, 0, 0, 0)
	if v.e.Connected() {
		t.Errorf("P1401: there is a peer")
	}
	for cmd := -1; cmd <= 27; cmd++ {
		v.wrong("P1407: no peer", api.Packet{Cmd: cmd, Id: 1, Epoch: 1, Count: 1, Data: fill('x')}, api.ErrDown)
	}
	v.gives("P1405: no peer", v.e.Disconnect(), nil, nil)
	v.submit("P1401: nothing is held", read(1, 0), nil, as{got(1, fill(0))})
}

// Example 1.
func TestAlone(t *testing.T) {
	v := newDesk(t, usual)
	v.submit("example 1", write(1, 3, 1), nil, as{ok(1)})
	v.marks("example 1", 3)
	v.submit("example 1", read(2, 3), nil, as{got(2, fill(1))})
	v.durable("a write is cached", 3, fill(0))
	v.submit("example 1", flush(3), nil, as{ok(3)})
	v.durable("a flush", 3, fill(1))
	v.tells("example 1", 0, 0, 0, 0, 0, 1, 1)
	v.submit("a zero", zero(1, 3), nil, as{ok(1)})
	v.submit("a zero", read(1, 3), nil, as{got(1, fill(0))})
	v.tells("P1408", 0, 0, 0, 0, 0, 2, 2)
	if len(v.s.Hot()) != 0 || v.s.Records() != 0 {
		t.Errorf("without a peer marks are enough: %v", v.s.Hot())
	}
	v.owns("all locks are given back", 0)
}

// P1402: each refusal, and which one is told where several apply.
func TestSubmitRefused(t *testing.T) {
	v := joinedDesk(t, usual)
	for _, id := range []int{math.MinInt, -1, 0, 1 << 31, 1 << 32, 1<<32 + 1, math.MaxInt} {
		v.refused("P1402: the id", api.Op{Id: id, Kind: api.OpRead, Block: 8, Data: fill(1)}, api.ErrArg)
		v.refused("P1402: the id", flush(id), api.ErrArg)
		v.refused("P1402: the id", write(id, 0, 1), api.ErrArg)
	}
	for _, kind := range []int{math.MinInt, -1, 0, 5, 8, 1 << 32, math.MaxInt} {
		v.refused("P1402: the kind", api.Op{Id: 1, Kind: kind, Block: 8}, api.ErrArg)
		v.refused("P1402: the kind", api.Op{Id: 1, Kind: kind}, api.ErrArg)
	}
	for _, block := range []int{math.MinInt, -1, 1, 7, 8, math.MaxInt} {
		v.refused("P1402: a flush has no block", api.Op{Id: 1, Kind: api.OpFlush, Block: block, Data: fill(1)}, api.ErrArg)
	}
	for _, block := range []int{math.MinInt, -4, -1, 8, 9, 12, 4095, 4096, 1 << 32, math.MaxInt} {
		v.refused("P1402: the block", read(1, block), api.ErrRange)
		v.refused("P1402: the block", zero(1, block), api.ErrRange)
		v.refused("P1402: the block, ahead of the data", api.Op{Id: 1, Kind: api.OpWrite, Block: block}, api.ErrRange)
	}
	for _, size := range []int{0, 1, 127, 129, 256, 1024} {
		v.refused("P1402: the data", api.Op{Id: 1, Kind: api.OpWrite, Data: make([]byte, size)}, api.ErrSize)
	}
	for _, kind := range []int{api.OpRead, api.OpZero, api.OpFlush} {
		v.refused("P1402: data of another kind", api.Op{Id: 1, Kind: kind, Data: []byte{0}}, api.ErrSize)
		v.refused("P1402: data of another kind", api.Op{Id: 1, Kind: kind, Data: fill(0)}, api.ErrSize)
	}
	v.submit("P1402: empty data", api.Op{Id: math.MaxInt32, Kind: api.OpRead, Block: 7, Data: []byte{}}, nil, as{got(math.MaxInt32, fill(0))})
	v.submit("P1402: empty data", api.Op{Id: 1, Kind: api.OpFlush, Data: []byte{}}, nil, as{ok(1)})
	v.submit("P1402: the greatest id", write(math.MaxInt32, 7, 'm'), ps{dataOf(math.MaxInt32, 7, 1, 'm')}, nil)
	v.receive("P1402: the greatest id", word(api.CmdWriteAck, math.MaxInt32, 7), nil, as{ok(math.MaxInt32)})
}

// P1402: ErrTwice ahead of ErrFull, both behind all that the operation itself says; then the lock table.
func TestSubmitQueue(t *testing.T) {
	v := newDesk(t, shape{8, 128, 2, 1, api.ProtoC, 2, 3})
	v.e.Hold(true)
	v.submit("P1402", read(1, 0), nil, nil)
	v.submit("P1402", flush(2), nil, nil)
	for _, op := range []api.Op{read(1, 0), flush(1), write(2, 5, 'x'), flush(2), read(2, 5)} {
		v.refused("P1402: the id is pending", op, api.ErrTwice)
	}
	v.acquire(1, api.Exclusive, -1, true)
	v.submit("P1402: it waits", zero(3, 4), nil, nil)
	v.tells("P1402", 3, 0, 0)
	v.refused("P1402: the queue", read(4, 0), api.ErrFull)
	v.refused("P1402: the queue, for a flush too", flush(4), api.ErrFull)
	v.refused("P1402: ErrTwice first", read(3, 0), api.ErrTwice)
	v.refused("P1402: ErrSize first", api.Op{Id: 3, Kind: api.OpWrite}, api.ErrSize)
	v.refused("P1402: ErrRange first", read(3, 8), api.ErrRange)
	v.refused("P1402: ErrArg first", read(0, 0), api.ErrArg)
	v.gives("P1406", v.e.Hold(false), nil, as{got(1, fill(0)), ok(2)})
	v.refused("P1402: the table has no room", read(5, 7), api.ErrFull)
	v.acquire(0, api.Shared, 6, true)
	v.refused("P1402: the owner has the extent", read(6, 3), api.ErrHeld)
	v.submit("P1402: a flush asks no table", flush(6), nil, nil)
	v.free(1, -1, 3)
	v.gives("P1403", v.e.Granted(3), nil, as{ok(3), ok(6)})
}

// P1402: a table of another size than the store's.
func TestSubmitSmallTable(t *testing.T) {
	_, s, _ := ground(t, usual)
	l, _ := locks.New(1, 4)
	e, _ := New(s, l, usual.config())
	if _, err := e.Submit(write(1, 4, 'x')); err != api.ErrRange || e.Pending() != 0 {
		t.Errorf("P1402: an extent that the table lacks: %v", err)
	}
	if o, err := e.Submit(write(1, 3, 'x')); err != api.OK || len(o.Answers) != 1 {
		t.Errorf("P1402: an extent that it has: %v, %v", o, err)
	}
}

// P1402, P1404: an id stays taken while its write is in the log, under each protocol, until its epoch's BarrierAck or the peer's loss.
func TestSubmitTwice(t *testing.T) {
	for protocol := api.ProtoA; protocol <= api.ProtoC; protocol++ {
		x := usual
		x.protocol = protocol
		v := joinedDesk(t, x)
		ack := []int{0, 0, api.CmdRecvAck, api.CmdWriteAck}[protocol]
		for round := uint32(1); round <= 2; round++ {
			o, e := v.e.Submit(write(7, 0, 'x'))
			if e != api.OK || len(o.Packets) != 1 {
				t.Fatalf("P1402: %v, %v", o, e)
			}
			v.refused("P1402: sent", read(7, 4), api.ErrTwice)
			if ack != 0 {
				v.receive("P1407", word(ack, 7, 0), nil, as{ok(7)})
			}
			v.refused("P1402: in the log", read(7, 4), api.ErrTwice)
			v.refused("P1402: in the log", flush(7), api.ErrTwice)
			v.submit("P1402", flush(8), ps{barrier(api.CmdBarrier, round, 1)}, nil)
			v.refused("P1402: in the log", write(7, 4, 'y'), api.ErrTwice)
			v.receive("P1407", barrier(api.CmdBarrierAck, round, 1), nil, as{ok(8)})
			v.submit("P1402: it has left the log", read(7, 4), nil, as{got(7, fill(0))})
		}
		v.e.Submit(write(7, 0, 'x'))
		v.e.Disconnect()
		v.submit("P1402: the log is empty", read(7, 4), nil, as{got(7, fill(0))})
		v.connect()
		v.tells("P1404: the log is empty", 0, 0, 0)
		o, e := v.e.Submit(write(7, 0, 'x'))
		if e != api.OK || len(o.Packets) != 1 || o.Packets[0].Epoch != 1 {
			t.Errorf("P1404: epochs begin anew: %v, %v", o, e)
		}
	}
}

// Example 2, example 3.
func TestPeer(t *testing.T) {
	v := joinedDesk(t, usual)
	if e := v.e.Connect(); e != api.ErrState {
		t.Errorf("P1404: Connect: %v", e)
	}
	v.submit("example 2", write(1, 0, 1), ps{dataOf(1, 0, 1, 1)}, nil)
	v.tells("example 2", 1, 1, 0, 1, 0, 1, 0)
	v.owns("a write at S has its lock", 0, 1)
	v.submit("example 2", read(2, 0), nil, as{got(2, fill(1))})
	v.refused("example 2", read(1, 0), api.ErrTwice)
	v.receive("example 2", word(api.CmdWriteAck, 1, 0), nil, as{ok(1)})
	v.owns("an answer gives the lock back", 0)
	v.wrong("example 2", word(api.CmdWriteAck, 1, 0), api.ErrProto)
	v.refused("example 2", read(1, 0), api.ErrTwice)
	v.durable("the epoch is open", 0, fill(0))
	v.submit("example 3", zero(3, 5), ps{zeroOf(3, 5, 1), barrier(api.CmdBarrier, 1, 2)}, nil)
	v.durable("a closed epoch is durable here", 0, fill(1))
	v.submit("example 3", flush(4), nil, nil)
	v.tells("example 3", 2, 2, 1)
	v.wrong("example 3", barrier(api.CmdBarrierAck, 1, 2), api.ErrProto)
	v.receive("example 3", word(api.CmdWriteAck, 3, 5), nil, as{ok(3)})
	v.receive("example 3", barrier(api.CmdBarrierAck, 1, 2), nil, as{ok(4)})
	v.tells("example 3", 0, 0, 0, 2, 0, 2, 1)
	v.marks("example 3")
	if e := v.s.End(0); e != api.ErrCold {
		t.Errorf("P1407: a settled write has no reference: %v", e)
	}
}

// P1402: a flush with a peer: with and without writes ahead of it in the open epoch, and what it waits for.
func TestFlush(t *testing.T) {
	v := joinedDesk(t, shape{8, 128, 2, 9, api.ProtoC, 3, 9})
	flushes := v.d.Counts().Flushes
	v.submit("nothing is in the log", flush(1), nil, as{ok(1)})
	if v.d.Counts().Flushes != flushes+1 {
		t.Errorf("a flush without a write flushes: %+v", v.d.Counts())
	}
	v.submit("a write", write(2, 0, 'a'), ps{dataOf(2, 0, 1, 'a')}, nil)
	v.submit("it closes the epoch", flush(3), ps{barrier(api.CmdBarrier, 1, 1)}, nil)
	if v.d.Counts().Flushes != flushes+2 {
		t.Errorf("the epoch is closed with one store.Flush: %+v", v.d.Counts())
	}
	v.submit("the open one has none", flush(4), nil, nil)
	if v.d.Counts().Flushes != flushes+3 {
		t.Errorf("a flush without a write flushes: %+v", v.d.Counts())
	}
	v.submit("a write", write(5, 4, 'b'), ps{dataOf(5, 4, 2, 'b')}, nil)
	v.submit("another epoch", flush(6), ps{barrier(api.CmdBarrier, 2, 1)}, nil)
	v.tells("P1408", 5, 2, 2)
	v.receive("an Ack settles nothing", word(api.CmdWriteAck, 5, 4), nil, as{ok(5)})
	v.wrong("P1407: the oldest first", barrier(api.CmdBarrierAck, 2, 1), api.ErrProto)
	v.receive("P1407", word(api.CmdWriteAck, 2, 0), nil, as{ok(2)})
	v.wrong("P1407: another count", barrier(api.CmdBarrierAck, 1, 2), api.ErrProto)
	v.wrong("P1407: another count", barrier(api.CmdBarrierAck, 1, 0), api.ErrProto)
	v.wrong("P1407: none", barrier(api.CmdBarrierAck, 0, 1), api.ErrProto)
	v.wrong("P1407: the open one", barrier(api.CmdBarrierAck, 3, 1), api.ErrProto)
	v.wrong("P1407: far off", barrier(api.CmdBarrierAck, math.MaxUint32, math.MaxUint32), api.ErrProto)
	v.receive("those that wait for 1", barrier(api.CmdBarrierAck, 1, 1), nil, as{ok(3), ok(4)})
	v.receive("the one that waits for 2", barrier(api.CmdBarrierAck, 2, 1), nil, as{ok(6)})
	v.tells("P1408", 0, 0, 0, 2, 0, 2, 0)
}

// A flush has its turn behind every earlier operation that is not begun, and behind no other.
func TestFlushTurn(t *testing.T) {
	v := newDesk(t, shape{8, 128, 2, 9, api.ProtoC, 8, 9})
	v.acquire(0, api.Exclusive, -1, true)
	v.submit("F: nothing is ahead", flush(1), nil, as{ok(1)})
	v.submit("W", write(2, 0, 'a'), nil, nil)
	v.submit("F: behind W", flush(3), nil, nil)
	v.submit("R: it does not wait for a flush", write(4, 4, 'b'), nil, as{ok(4)})
	v.submit("F: behind F", flush(5), nil, nil)
	v.submit("W", read(6, 1), nil, nil)
	v.submit("F: behind W", flush(7), nil, nil)
	v.free(0, -1, 2, 6)
	flushes := v.d.Counts().Flushes
	v.gives("P1403", v.e.Granted(2), nil, as{ok(2), ok(3), ok(5)})
	if v.d.Counts().Flushes != flushes+2 {
		t.Errorf("one store.Flush a turn: %+v", v.d.Counts())
	}
	v.gives("P1403", v.e.Granted(6), nil, as{got(6, fill(0)), ok(7)})
	v.tells("P1408", 0, 0, 0, 0, 0, 2, 1)
}

// P1407: who acknowledges a write, and who may not.
func TestProtocols(t *testing.T) {
	x := usual
	x.protocol = api.ProtoA
	v := joinedDesk(t, x)
	v.submit("A", write(1, 0, '1'), ps{dataOf(1, 0, 1, '1')}, as{ok(1)})
	v.owns("A: the answer gives the lock back", 0)
	v.tells("A", 0, 1, 0)
	v.wrong("A", word(api.CmdWriteAck, 1, 0), api.ErrProto)
	v.wrong("A", word(api.CmdRecvAck, 1, 0), api.ErrProto)
	v.submit("A", zero(2, 0), ps{zeroOf(2, 0, 1), barrier(api.CmdBarrier, 1, 2)}, as{ok(2)})
	v.receive("A: no Ack is needed", barrier(api.CmdBarrierAck, 1, 2), nil, nil)
	v.tells("A", 0, 0, 0, 2, 0, 2, 0)
	v.receive("A: the backup", dataOf(9, 7, 1, 'd'), nil, nil)
	v.receive("A: the backup", zeroOf(9, 7, 1), nil, nil)
	for _, p := range []struct{ protocol, own, other int }{{api.ProtoB, api.CmdRecvAck, api.CmdWriteAck}, {api.ProtoC, api.CmdWriteAck, api.CmdRecvAck}} {
		x.protocol = p.protocol
		v := joinedDesk(t, x)
		v.submit("B, C", write(1, 0, '1'), ps{dataOf(1, 0, 1, '1')}, nil)
		v.submit("B, C: a read", read(2, 1), nil, as{got(2, fill(0))})
		v.wrong("the other word", word(p.other, 1, 0), api.ErrProto)
		for _, block := range []uint32{1, 4, 1 << 31, math.MaxUint32} {
			v.wrong("another block", word(p.own, 1, block), api.ErrProto)
		}
		for _, id := range []uint32{0, 2, 1<<31 + 1, math.MaxUint32} {
			v.wrong("another id", word(p.own, id, 0), api.ErrProto)
		}
		p1 := word(p.own, 1, 0)
		p1.Epoch, p1.Count, p1.Flags, p1.Data = 9, 9, 9, []byte{9}
		v.receive("fields of which nothing is said", p1, nil, as{ok(1)})
		v.receive("the backup", dataOf(9, 7, 1, 'd'), ps{word(p.own, 9, 7)}, nil)
		v.receive("the backup", zeroOf(0, 7, 1), ps{word(p.own, 0, 7)}, nil)
	}
}

// P1407: an Ack for an operation that is not at S.
func TestAckElsewhere(t *testing.T) {
	v := joinedDesk(t, shape{8, 128, 1, 9, api.ProtoC, 4, 9})
	v.acquire(1, api.Exclusive, -1, true)
	v.submit("W", write(1, 4, 'x'), nil, nil)
	v.d.Spoil(3)
	v.submit("A", read(2, 3), ps{word(api.CmdReadRequest, 2, 3)}, nil)
	v.submit("F", flush(3), nil, nil)
	v.e.Hold(true)
	v.submit("R", write(4, 0, 'y'), nil, nil)
	for _, p := range []api.Packet{word(api.CmdWriteAck, 1, 4), word(api.CmdWriteAck, 2, 3), word(api.CmdWriteAck, 3, 0), word(api.CmdWriteAck, 4, 0)} {
		v.wrong("P1407: not at S", p, api.ErrProto)
	}
	for _, p := range []api.Packet{replyOf(1, 4, 0, fill(1)), replyOf(3, 0, 0, fill(1)), replyOf(4, 0, 21, nil)} {
		v.wrong("P1407: not at A", p, api.ErrProto)
	}
	v.gives("P1406", v.e.Hold(false), ps{dataOf(4, 0, 1, 'y')}, nil)
	v.wrong("P1407: at S, not at A", replyOf(4, 0, 0, fill(1)), api.ErrProto)
	v.receive("P1407", word(api.CmdWriteAck, 4, 0), nil, as{ok(4)})
}

// Example 4.
func TestStarved(t *testing.T) {
	v := joinedDesk(t, shape{8, 128, 1, 100, api.ProtoC, 2, 4})
	v.submit("example 4", write(1, 0, '1'), ps{dataOf(1, 0, 1, '1')}, nil)
	v.submit("example 4", write(5, 4, '5'), ps{barrier(api.CmdBarrier, 1, 1)}, nil)
	v.submit("example 4", read(6, 4), nil, nil)
	v.submit("of another extent: behind it too", read(7, 0), nil, nil)
	v.refused("the queue", read(8, 0), api.ErrFull)
	v.receive("an Ack does not free the slot", word(api.CmdWriteAck, 1, 0), nil, as{ok(1)})
	v.receive("example 4", barrier(api.CmdBarrierAck, 1, 1), ps{dataOf(5, 4, 2, '5')}, as{got(6, fill('5')), got(7, fill('1'))})
	v.tells("example 4", 1, 1, 0)
}

// A stuck operation ends the loop, not the turns of flushes that stand ahead of it.
func TestStuckFlush(t *testing.T) {
	v := joinedDesk(t, shape{8, 128, 1, 100, api.ProtoC, 2, 9})
	v.submit("S", write(1, 0, '1'), ps{dataOf(1, 0, 1, '1')}, nil)
	v.e.Hold(true)
	v.submit("F", flush(2), nil, nil)
	v.submit("R", write(3, 4, '3'), nil, nil)
	v.submit("F", flush(4), nil, nil)
	v.gives("the stuck one closes the epoch, the first flush waits for it", v.e.Hold(false), ps{barrier(api.CmdBarrier, 1, 1)}, nil)
	v.receive("P1407", word(api.CmdWriteAck, 1, 0), nil, as{ok(1)})
	v.receive("P1407", barrier(api.CmdBarrierAck, 1, 1), ps{dataOf(3, 4, 2, '3'), barrier(api.CmdBarrier, 2, 1)}, as{ok(2)})
	v.receive("P1407", word(api.CmdWriteAck, 3, 4), nil, as{ok(3)})
	v.receive("P1407", barrier(api.CmdBarrierAck, 2, 1), nil, as{ok(4)})
}

// The transfer log has room for four epochs; the write that finds none gives its reference back and stays the first.
func TestLogFull(t *testing.T) {
	for _, epoch := range []int{1, 2, 64} {
		v := joinedDesk(t, shape{8, 128, 2, 9, api.ProtoA, epoch, 4})
		for i := range 4 * epoch {
			o, e := v.e.Submit(zero(i+1, 0))
			if e != api.OK || len(o.Answers) != 1 || o.Packets[0].Epoch != uint32(i/epoch+1) || (len(o.Packets) == 2) != (i%epoch == epoch-1) {
				t.Fatalf("write %d: %v, %v", i, o, e)
			}
		}
		v.tells("P1408", 0, 4*epoch, 4)
		id := 4*epoch + 1
		v.submit("the log is full", write(id, 4, 'x'), nil, nil)
		v.submit("behind it", read(id+1, 4), nil, nil)
		if e := v.s.End(4); e != api.ErrCold {
			t.Fatalf("the stuck one has no reference: %v", e)
		}
		v.receive("an epoch is settled", barrier(api.CmdBarrierAck, 1, uint32(epoch)),
			append(ps{dataOf(uint32(id), 4, 5, 'x')}, ps{barrier(api.CmdBarrier, 5, 1)}[:1-min(epoch-1, 1)]...), as{ok(id), got(id+1, fill('x'))})
		v.tells("P1408", 0, 3*epoch+1, 3+1-min(epoch-1, 1))
	}
}

// The log is full with an open epoch that has a write: it is closed.
func TestLogFullOpen(t *testing.T) {
	v := joinedDesk(t, shape{8, 128, 2, 9, api.ProtoA, 2, 9})
	for id := 1; id <= 7; id++ {
		v.e.Submit(zero(id, 0))
		if id == 1 {
			v.e.Submit(flush(99))
		}
	}
	v.tells("P1408", 1, 7, 4)
	v.submit("eight writes, the last one alone", write(8, 0, 'x'), ps{dataOf(8, 0, 5, 'x')}, as{ok(8)})
	v.submit("no room", write(9, 0, 'y'), ps{barrier(api.CmdBarrier, 5, 1)}, nil)
	v.tells("P1408", 2, 8, 5)
	v.receive("room", barrier(api.CmdBarrierAck, 1, 1), ps{dataOf(9, 0, 6, 'y')}, as{ok(99), ok(9)})
}

// P1406, example 5: what is held, and what goes on all the same.
func TestHold(t *testing.T) {
	v := joinedDesk(t, shape{8, 128, 2, 9, api.ProtoC, 2, 9})
	v.submit("S", write(1, 0, '1'), ps{dataOf(1, 0, 1, '1')}, nil)
	v.submit("E", flush(2), ps{barrier(api.CmdBarrier, 1, 1)}, nil)
	v.gives("P1406", v.e.Hold(true), nil, nil)
	v.gives("P1406: once more", v.e.Hold(true), nil, nil)
	v.submit("example 5", read(7, 1), nil, nil)
	v.submit("example 5: a flush", flush(8), nil, nil)
	v.acquire(1, api.Exclusive, -1, true)
	v.submit("W", write(9, 4, '9'), nil, nil)
	v.free(1, -1, 9)
	v.gives("P1403: it is held", v.e.Granted(9), nil, nil)
	v.receive("the peer's words are heard", word(api.CmdWriteAck, 1, 0), nil, as{ok(1)})
	v.receive("the peer's words are heard", barrier(api.CmdBarrierAck, 1, 1), nil, as{ok(2)})
	v.receive("the peer is served", word(api.CmdReadRequest, 5, 0), ps{replyOf(5, 0, 0, fill('1'))}, nil)
	v.gives("P1406: all writes that are ready go ahead of the flush", v.e.Hold(false), ps{dataOf(9, 4, 2, '9'), barrier(api.CmdBarrier, 2, 1)}, as{got(7, fill(0))})
	v.gives("P1406: nothing is held", v.e.Hold(false), nil, nil)
	v.e.Hold(true)
	v.submit("P1406", read(1, 0), nil, nil)
	v.gives("P1405: what waits for the peer's word, and no more", v.e.Disconnect(), nil, as{ok(8), ok(9)})
	v.connect()
	v.gives("P1406", v.e.Hold(false), nil, as{got(1, fill('1'))})
}

// P1403, example 6.
func TestGranted(t *testing.T) {
	v := joinedDesk(t, shape{8, 128, 2, 9, api.ProtoC, 2, 9})
	v.acquire(0, api.Exclusive, -1, true)
	v.submit("example 6", write(8, 0, '8'), nil, nil)
	v.submit("behind it", read(9, 3), nil, nil)
	v.submit("another extent", read(10, 4), nil, as{got(10, fill(0))})
	v.submit("S", write(11, 5, 'b'), ps{dataOf(11, 5, 1, 'b')}, nil)
	v.submit("F", flush(12), nil, nil)
	before := v.looks()
	for _, owner := range []int{math.MinInt, -1, 0, 7, 10, 11, 12, 1<<32 + 8, math.MaxInt} {
		v.gives("P1403: none that waits", v.e.Granted(owner), nil, nil)
		v.same("P1403: none that waits", before)
	}
	v.free(0, -1, 8, 9)
	v.gives("example 6", v.e.Granted(8), ps{dataOf(8, 0, 1, '8'), barrier(api.CmdBarrier, 1, 2)}, nil)
	v.gives("P1403: it waits no more", v.e.Granted(8), nil, nil)
	v.gives("P1403", v.e.Granted(9), nil, as{got(9, fill(0))})
	v.tells("P1408: the flush is at E", 3, 2, 1)
}

// To answer: who comes in by the lock that is given back: the engine's own go to the ready list's end, others are told.
func TestRelease(t *testing.T) {
	v := joinedDesk(t, shape{8, 128, 2, 20, api.ProtoC, 8, 20})
	v.submit("S", write(1, 0, '1'), ps{dataOf(1, 0, 1, '1')}, nil)
	v.acquire(0, api.Exclusive, -1, false)
	v.submit("W", read(2, 0), nil, nil)
	v.acquire(0, api.Shared, 70, false)
	v.submit("W", write(3, 1, '3'), nil, nil)
	v.acquire(0, api.Exclusive, -2, false)
	v.submit("W", read(4, 1), nil, nil)
	v.receive("an exclusive owner comes in", word(api.CmdWriteAck, 1, 0), nil, as{ok(1)}, -1)
	v.free(0, -1, 2, 70, 3)
	v.gives("P1403", v.e.Granted(2), nil, as{got(2, fill('1'))})
	v.gives("P1403", v.e.Granted(70), nil, nil)
	v.free(0, 70)
	v.gives("P1403", v.e.Granted(3), ps{dataOf(3, 1, 1, '3')}, nil)
	v.receive("the last holder leaves", word(api.CmdWriteAck, 3, 1), nil, as{ok(3)}, -2)
	v.free(0, -2, 4)
	v.gives("P1403", v.e.Granted(4), nil, as{got(4, fill('3'))})
	v.owns("all are given back", 0)
}

// To answer: an owner that waits behind the last answer's lock is begun in the same loop, in its order.
func TestReleaseLoop(t *testing.T) {
	v := newDesk(t, shape{8, 128, 2, 20, api.ProtoC, 8, 20})
	v.e.Hold(true)
	v.submit("R", write(1, 0, '1'), nil, nil)
	v.submit("R", read(2, 4), nil, nil)
	v.acquire(0, api.Exclusive, -1, false)
	v.submit("W", read(3, 0), nil, nil)
	v.submit("W", write(4, 0, '4'), nil, nil)
	v.submit("F", flush(5), nil, nil)
	if l, _ := v.l.Release(0, -1); len(l) != 2 {
		t.Fatalf("Release: %v", l)
	}
	v.gives("P1406: 3 and 4 are not told yet", v.e.Hold(false), nil, as{ok(1), got(2, fill(0))})
	v.gives("P1403", v.e.Granted(3), nil, as{got(3, fill('1'))})
	v.gives("P1403", v.e.Granted(4), nil, as{ok(4), ok(5)})

	v.acquire(1, api.Exclusive, 9, true)
	v.submit("W", read(7, 4), nil, nil)
	v.submit("W", zero(8, 5), nil, nil)
	v.gives("P1403: whoever says so", v.e.Granted(7), nil, as{got(7, fill(0))})
	v.owns("it has left the row", 1, 9)
	v.free(1, 9, 8)
	v.gives("P1403", v.e.Granted(8), nil, as{ok(8)})
}

// An answer lets an operation of the engine in that waits: in the same call, behind those that are ready.
func TestReleaseOwn(t *testing.T) {
	v := newDesk(t, shape{8, 128, 2, 20, api.ProtoC, 8, 20})
	v.e.Hold(true)
	v.submit("R", write(1, 0, '1'), nil, nil)
	v.acquire(0, api.Exclusive, 6, false)
	v.submit("W", read(2, 0), nil, nil)
	v.submit("R", write(3, 4, '3'), nil, nil)
	// The owner 6 in the row is an operation of this engine too, by its number.
	v.acquire(1, api.Exclusive, 5, false)
	v.submit("W", read(6, 4), nil, nil)
	v.gives("1 lets 6 in, 3 lets 5 in", v.e.Hold(false), nil, as{ok(1), ok(3), got(6, fill('3'))}, 5)
	v.owns("6 has given back what it has in its own extent", 0, 6)
	v.free(0, 6, 2)
	v.gives("P1403", v.e.Granted(2), nil, as{got(2, fill('1'))})
	v.tells("P1408", 0, 0, 0, 0, 0, 2, 2)
}

// Example 7, P1405.
func TestDisconnect(t *testing.T) {
	v := joinedDesk(t, shape{12, 128, 2, 20, api.ProtoC, 2, 20})
	v.submit("example 7", write(1, 0, '1'), ps{dataOf(1, 0, 1, '1')}, nil)
	v.submit("example 7", zero(3, 5), ps{zeroOf(3, 5, 1), barrier(api.CmdBarrier, 1, 2)}, nil)
	v.submit("example 7", flush(4), nil, nil)
	v.d.Spoil(6)
	v.submit("A", read(5, 6), ps{word(api.CmdReadRequest, 5, 6)}, nil)
	v.submit("stuck", write(6, 8, '6'), nil, nil)
	v.submit("R", read(7, 8), nil, nil)
	v.submit("F", flush(8), nil, nil)
	v.acquire(0, api.Exclusive, -1, false)
	flushes := v.d.Counts().Flushes
	v.gives("example 7", v.e.Disconnect(), nil, as{ok(1), ok(3), ok(4), failed(5, api.ErrMedium), ok(6), got(7, fill('6')), ok(8)}, -1)
	if v.d.Counts().Flushes != flushes+2 {
		t.Errorf("P1405: one store.Flush for each flush: %+v", v.d.Counts())
	}
	v.marks("example 7", 0, 5, 8)
	v.tells("example 7", 0, 0, 0, 2, 0, 3, 1)
	for _, block := range []int{0, 5, 8} {
		if e := v.s.End(block); e != api.ErrCold {
			t.Errorf("P1405: the references are given back: %v", e)
		}
	}
	if v.e.Connected() {
		t.Errorf("P1405: Connected")
	}
	v.gives("P1405: without a peer nothing", v.e.Disconnect(), nil, nil)
	v.wrong("P1407: without a peer", word(api.CmdWriteAck, 1, 0), api.ErrDown)
}

// P1405: what was answered already is marked too, under each protocol; what is settled is not.
func TestDisconnectLog(t *testing.T) {
	for protocol := api.ProtoA; protocol <= api.ProtoC; protocol++ {
		v := joinedDesk(t, shape{8, 128, 2, 20, protocol, 1, 20})
		ack := []int{0, 0, api.CmdRecvAck, api.CmdWriteAck}[protocol]
		for id := uint32(1); id <= 3; id++ {
			v.e.Submit(write(int(id), int(id), 'x'))
			if ack != 0 {
				v.e.Receive(word(ack, id, id))
			}
		}
		v.receive("P1407", barrier(api.CmdBarrierAck, 1, 1), nil, nil)
		v.tells("P1408", 0, 2, 2)
		v.gives("P1405", v.e.Disconnect(), nil, nil)
		v.marks("P1405", 2, 3)
	}
}

// P1407: reads of which the peer is asked, and of which it is not.
func TestReadPeer(t *testing.T) {
	v := joinedDesk(t, shape{8, 128, 2, 20, api.ProtoC, 4, 20})
	v.d.Spoil(6)
	v.submit("A", read(7, 6), ps{word(api.CmdReadRequest, 7, 6)}, nil)
	v.owns("a read at A has its lock", 1, 7)
	v.tells("P1408", 1, 0, 0, 0, 0, 0, 0)
	for _, p := range []api.Packet{replyOf(7, 5, 0, fill('x')), replyOf(7, 5, 21, nil), replyOf(8, 6, 0, fill('x')), replyOf(7, 6, 0, nil), replyOf(7, 6, 0, fill('x')[:127]), replyOf(7, 6, 0, make([]byte, 129)), replyOf(7, math.MaxUint32, 0, fill('x'))} {
		v.wrong("P1407", p, api.ErrProto)
	}
	p := replyOf(7, 6, 0, fill('x'))
	p.Epoch, p.Count = 5, 5
	v.receive("P1407", p, nil, as{got(7, fill('x'))})
	v.owns("P1407", 1)
	v.wrong("P1407: once", p, api.ErrProto)
	v.tells("P1408: a read that was answered OK", 0, 0, 0, 0, 0, 0, 1)
	for _, flags := range []uint32{1, 21, 22, 255, math.MaxUint32} {
		v.submit("A", read(8, 6), ps{word(api.CmdReadRequest, 8, 6)}, nil)
		v.receive("P1407: the data do not matter", replyOf(8, 6, flags, []byte{1}), nil, as{failed(8, api.Errno(flags))})
	}
	v.tells("P1408: one that was not", 0, 0, 0, 0, 0, 0, 1)
	v.s.Mark(6)
	v.submit("a marked block is not asked for", read(9, 6), nil, as{failed(9, api.ErrMedium)})
	v.s.Clean(6)
	v.s.Mark(7)
	v.submit("its neighbour does not matter", read(9, 6), ps{word(api.CmdReadRequest, 9, 6)}, nil)
	v.e.Disconnect()
	v.submit("without a peer", read(9, 6), nil, as{failed(9, api.ErrMedium)})
}

// Example 8, P1407: the backup's side.
func TestBackup(t *testing.T) {
	v := joinedDesk(t, usual)
	v.receive("example 8", dataOf(1, 0, 1, 1), ps{word(api.CmdWriteAck, 1, 0)}, nil)
	v.wrong("example 8", dataOf(2, 0, 2, 1), api.ErrProto)
	v.wrong("example 8", barrier(api.CmdBarrier, 1, 2), api.ErrProto)
	v.wrong("P1407: another epoch", barrier(api.CmdBarrier, 2, 1), api.ErrProto)
	v.wrong("P1407: another epoch", barrier(api.CmdBarrier, 0, 1), api.ErrProto)
	v.wrong("P1407: none", barrier(api.CmdBarrier, 1, 0), api.ErrProto)
	for _, block := range []uint32{8, 9, 4096, 1 << 31, math.MaxUint32} {
		v.wrong("P1407: no block", dataOf(2, block, 1, 1), api.ErrProto)
		v.wrong("P1407: no block", zeroOf(2, block, 1), api.ErrProto)
		v.wrong("P1407: no block", word(api.CmdReadRequest, 2, block), api.ErrProto)
	}
	for _, size := range []int{0, 1, 127, 129, 256} {
		v.wrong("P1407: the data", api.Packet{Cmd: api.CmdData, Id: 2, Epoch: 1, Data: make([]byte, size)}, api.ErrProto)
	}
	for _, epoch := range []uint32{0, 2, math.MaxUint32} {
		v.wrong("P1407: another epoch", zeroOf(2, 0, epoch), api.ErrProto)
	}
	v.durable("not durable yet", 0, fill(0))
	v.receive("example 8", barrier(api.CmdBarrier, 1, 1), ps{barrier(api.CmdBarrierAck, 1, 1)}, nil)
	v.durable("durable at the barrier", 0, fill(1))
	v.wrong("example 8", dataOf(1, 0, 1, 1), api.ErrProto)
	v.wrong("P1407: it has none", barrier(api.CmdBarrier, 2, 0), api.ErrProto)
	v.receive("example 8", word(api.CmdReadRequest, 9, 0), ps{replyOf(9, 0, 0, fill(1))}, nil)
	z := zeroOf(2, 0, 2)
	z.Data, z.Count, z.Flags = []byte{1, 2}, 7, 7
	v.receive("P1407: a Zero's data do not matter", z, ps{word(api.CmdWriteAck, 2, 0)}, nil)
	v.receive("P1407: an id of any kind", dataOf(math.MaxUint32, 7, 2, 3), ps{word(api.CmdWriteAck, math.MaxUint32, 7)}, nil)
	v.wrong("P1407: the epoch has its writes", dataOf(4, 1, 2, 4), api.ErrProto)
	v.wrong("P1407: the epoch has its writes", zeroOf(4, 1, 2), api.ErrProto)
	v.receive("P1407: a Zero", word(api.CmdReadRequest, 0, 0), ps{replyOf(0, 0, 0, fill(0))}, nil)
	v.d.Spoil(6)
	v.receive("P1407: it cannot be read", word(api.CmdReadRequest, 9, 6), ps{replyOf(9, 6, 21, nil)}, nil)
	v.tells("P1408", 0, 0, 0, 0, 3, 3, 0)
	v.marks("a backup marks nothing")
	v.gives("P1405", v.e.Disconnect(), nil, nil)
	v.connect()
	v.receive("P1404: anew", dataOf(1, 0, 1, 1), ps{word(api.CmdWriteAck, 1, 0)}, nil)
	v.receive("P1404: anew", barrier(api.CmdBarrier, 1, 1), ps{barrier(api.CmdBarrierAck, 1, 1)}, nil)
	v.tells("P1408: since New", 0, 0, 0, 0, 4, 4, 0)
}

// P1407: every other command.
func TestOtherCommands(t *testing.T) {
	v := joinedDesk(t, usual)
	v.submit("S", write(1, 0, 'x'), ps{dataOf(1, 0, 1, 'x')}, nil)
	known := []int{api.CmdData, api.CmdZero, api.CmdRecvAck, api.CmdWriteAck, api.CmdBarrier, api.CmdBarrierAck, api.CmdReadRequest, api.CmdReadReply}
	for _, cmd := range []int{math.MinInt, -1, 0, 26, 27, 255, 256 + api.CmdData, 1<<32 + api.CmdData, math.MaxInt} {
		v.wrong("P1407", api.Packet{Cmd: cmd, Id: 1, Epoch: 1, Count: 1, Data: fill(1)}, api.ErrProto)
	}
	for cmd := api.CmdFeature; cmd <= api.CmdReadReply; cmd++ {
		if !slices.Contains(known, cmd) {
			v.wrong("P1407", api.Packet{Cmd: cmd, Id: 1, Epoch: 1, Count: 1, Data: fill(1)}, api.ErrProto)
		}
	}
}

// An engine can be both sides at once: the two count their epochs apart.
func TestBothSides(t *testing.T) {
	v := joinedDesk(t, shape{8, 128, 2, 20, api.ProtoC, 1, 20})
	v.submit("S", write(1, 0, 'a'), ps{dataOf(1, 0, 1, 'a'), barrier(api.CmdBarrier, 1, 1)}, nil)
	v.receive("the backup's first", dataOf(1, 7, 1, 'b'), ps{word(api.CmdWriteAck, 1, 7)}, nil)
	v.submit("S", write(2, 1, 'c'), ps{dataOf(2, 1, 2, 'c'), barrier(api.CmdBarrier, 2, 1)}, nil)
	v.receive("its barrier", barrier(api.CmdBarrier, 1, 1), ps{barrier(api.CmdBarrierAck, 1, 1)}, nil)
	v.receive("a word of 1", word(api.CmdWriteAck, 1, 0), nil, as{ok(1)})
	v.receive("its epoch", barrier(api.CmdBarrierAck, 1, 1), nil, nil)
	v.tells("P1408", 1, 1, 1, 2, 1, 3, 0)
}

// Dead: by each way in which the store can tell it.
func TestDead(t *testing.T) {
	x := shape{8, 128, 2, 20, api.ProtoC, 2, 20}
	for i, kill := range []func(v *desk) (api.Out, api.Errno){
		func(v *desk) (api.Out, api.Errno) { return v.e.Submit(write(9, 0, 'x')) },
		func(v *desk) (api.Out, api.Errno) { return v.e.Receive(dataOf(9, 0, 1, 'x')) },
		func(v *desk) (api.Out, api.Errno) {
			v.d.Fuse(1)
			v.receive("one step", zeroOf(9, 0, 1), ps{word(api.CmdWriteAck, 9, 0)}, nil)
			return v.e.Receive(barrier(api.CmdBarrier, 1, 1))
		},
		func(v *desk) (api.Out, api.Errno) { v.s.Flush(); return v.e.Submit(read(9, 0)) },
		func(v *desk) (api.Out, api.Errno) { v.s.Flush(); return v.e.Receive(word(api.CmdReadRequest, 9, 0)) },
		func(v *desk) (api.Out, api.Errno) {
			v.e.Receive(word(api.CmdWriteAck, 1, 0))
			v.s.Flush()
			return v.e.Receive(barrier(api.CmdBarrierAck, 1, 1))
		},
		func(v *desk) (api.Out, api.Errno) { return v.e.Disconnect(), api.ErrPower },
		func(v *desk) (api.Out, api.Errno) { return v.e.Granted(3), api.ErrPower },
		func(v *desk) (api.Out, api.Errno) {
			v.e.Hold(true)
			v.e.Submit(zero(9, 0))
			return v.e.Hold(false), api.ErrPower
		},
	} {
		v := joinedDesk(t, x)
		v.submit("S", write(1, 0, '1'), ps{dataOf(1, 0, 1, '1')}, nil)
		v.submit("E", flush(2), ps{barrier(api.CmdBarrier, 1, 1)}, nil)
		v.acquire(1, api.Exclusive, -1, true)
		v.submit("W", write(3, 4, '3'), nil, nil)
		v.d.Fuse(0)
		if o, e := kill(v); e != api.ErrPower || !sameOut(o, api.Out{}) {
			t.Errorf("row %d: %v, %v", i, o, e)
		}
		v.wantDead("the power is off")
		v.d.Crash(nil)
		v.wantDead("the disk has its power again")
		s, r, e := store.Open(v.d)
		if e != api.OK || !r.Crashed || s.Bits()[0]&15 != 15 {
			t.Errorf("P1410: row %d: %+v, %v", i, r, e)
		}
	}
}

// A store that is down by another's call: the engine goes by the layout of New, and is dead as soon as the store tells it.
func TestStoreDown(t *testing.T) {
	v := joinedDesk(t, usual)
	v.e.Hold(true)
	v.d.Fuse(0)
	if e := v.s.Flush(); e != api.ErrPower {
		t.Fatal(e)
	}
	v.refused("P1402", read(1, 8), api.ErrRange)
	v.refused("P1402", api.Op{Id: 1, Kind: api.OpWrite, Block: 7}, api.ErrSize)
	v.refused("P1402", read(0, 8), api.ErrArg)
	v.wrong("P1407", dataOf(1, 8, 1, 'x'), api.ErrProto)
	v.wrong("P1407", barrier(api.CmdBarrier, 1, 1), api.ErrProto)
	v.submit("held: the store is not asked", write(1, 7, 'x'), nil, nil)
	if v.tells("alive", 1, 0, 0); !v.e.Connected() {
		t.Errorf("alive: no peer")
	}
	v.gives("P1405: nothing of it asks the store", v.e.Disconnect(), nil, nil)
	v.connect()
	v.gives("P1406", v.e.Hold(false), nil, nil)
	v.wantDead("behind Hold")
}

// P1401: a store that is down at New has no block.
func TestNewDown(t *testing.T) {
	d, s, l := ground(t, usual)
	d.Fuse(0)
	s.Flush()
	e, err := New(s, l, usual.config())
	if err != api.OK {
		t.Fatalf("P1401: %v", err)
	}
	v := &desk{t: t, d: d, s: s, l: l, e: e}
	v.connect()
	v.refused("P1402", read(1, 0), api.ErrRange)
	v.wrong("P1407", word(api.CmdReadRequest, 1, 0), api.ErrProto)
	if _, err := e.Submit(flush(1)); err != api.ErrPower {
		t.Errorf("P1402: %v", err)
	}
	v.wantDead("a flush")
}

// P1412: what is handed in is neither kept nor changed, what is given out is new memory, spare room included.
func TestMemory(t *testing.T) {
	v := joinedDesk(t, shape{8, 128, 2, 20, api.ProtoC, 8, 20})
	room := bytes.Repeat([]byte{'a'}, 200)
	v.e.Hold(true)
	v.submit("held", api.Op{Id: 1, Kind: api.OpWrite, Block: 0, Data: room[:128]}, nil, nil)
	for i := range room {
		if room[i] != 'a' {
			t.Fatalf("P1412: the data or their spare room changed")
		}
		room[i] = 'z'
	}
	out := v.e.Hold(false)
	v.gives("P1412: the bytes as they were handed in", out, ps{dataOf(1, 0, 1, 'a')}, nil)
	scribble(out)
	o, _ := v.e.Submit(read(2, 0))
	v.gives("P1412", o, nil, as{got(2, fill('a'))})
	scribble(o)
	v.submit("P1412", read(2, 0), nil, as{got(2, fill('a'))})

	p := dataOf(5, 4, 1, 'p')
	p.Data = append(p.Data, fill('q')...)[:128]
	v.receive("P1412", p, ps{word(api.CmdWriteAck, 5, 4)}, nil)
	if !bytes.Equal(p.Data[:256], append(fill('p'), fill('q')...)) {
		t.Fatalf("P1412: a packet's data changed")
	}
	clear(p.Data[:256])
	o, _ = v.e.Receive(word(api.CmdReadRequest, 6, 4))
	v.gives("P1412", o, ps{replyOf(6, 4, 0, fill('p'))}, nil)
	scribble(o)
	v.receive("P1412", word(api.CmdReadRequest, 6, 4), ps{replyOf(6, 4, 0, fill('p'))}, nil)

	v.d.Spoil(7)
	v.submit("A", read(8, 7), ps{word(api.CmdReadRequest, 8, 7)}, nil)
	r := replyOf(8, 7, 0, append(fill('r'), fill('s')...)[:128])
	o, _ = v.e.Receive(r)
	scribble(o)
	if !bytes.Equal(r.Data[:256], append(fill('r'), fill('s')...)) {
		t.Fatalf("P1412: an answer's data are the packet's")
	}
}

// scribble writes over all that a call gave out, its spare room included.
func scribble(o api.Out) {
	packets, answers, granted := o.Packets[:cap(o.Packets)], o.Answers[:cap(o.Answers)], o.Granted[:cap(o.Granted)]
	for i := range packets {
		spoilBytes(packets[i].Data)
		packets[i] = api.Packet{Cmd: -1, Id: 99}
	}
	for i := range answers {
		spoilBytes(answers[i].Data)
		answers[i] = api.Answer{Id: -1}
	}
	for i := range granted {
		granted[i] = -12345
	}
}

func spoilBytes(list []byte) {
	list = list[:cap(list)]
	for i := range list {
		list[i] ^= 0xa5
	}
}
