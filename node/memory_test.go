package node

import (
	"bytes"
	"slices"
	"testing"

	"replica/api"
)

// roomy gives data with spare room behind them, and all of that as it is.
func roomy(data []byte) (part, all []byte) {
	big := append(slices.Clone(data), bytes.Repeat([]byte{0x55}, 64)...)
	return big[:len(data)], slices.Clone(big)
}

// spoilMemory writes over an answer, its spare room included.
func spoilMemory(o api.NodeOut) {
	over := func(b []byte) {
		b = b[:cap(b)]
		for i := range b {
			b[i] = 0xee
		}
	}
	for _, f := range o.Frames {
		over(f)
	}
	for _, a := range o.Answers {
		over(a.Data)
	}
	frames, answers := o.Frames[:cap(o.Frames)], o.Answers[:cap(o.Answers)]
	clear(frames)
	clear(answers)
}

// TestMemoryHandedIn: what is handed in is not changed and not kept.
func TestMemoryHandedIn(t *testing.T) {
	d := newDesk(t, resource(), 0)
	d.must("", d.promote(0, false))
	d.meet(false)
	data, all := roomy(fill(128, 7))
	if _, e := d.node().Submit(api.Op{Id: 1, Kind: api.OpWrite, Block: 3, Data: data}); e != api.OK { // held
		t.Fatalf("P1715: %v", e)
	}
	if !bytes.Equal(data[:cap(data)][:len(all)], all) {
		t.Error("P1715: what was handed in has changed")
	}
	for i := range data[:cap(data)] {
		data[:cap(data)][i] = 0x77
	}
	_, behind := d.greets(d.self())
	if last := behind[len(behind)-1]; !bytes.Equal(last.Data, fill(128, 7)) || !bytes.Equal(d.read(0, 3), fill(128, 7)) {
		t.Error("P1715: what was handed in is kept")
	}

	d = newDesk(t, resource(), 0)
	d.joins(func(s *api.Self) {})
	for k := range 2 { // the second's frame comes first, and is kept by the link
		d.l.Send(bytesOf(api.Packet{Cmd: api.CmdData, Id: uint32(k + 1), Block: uint32(k), Epoch: 1, Data: fill(128, byte(k+1))}))
	}
	frames := d.l.Out()
	for _, k := range []int{1, 0} {
		frame, all := roomy(frames[k])
		d.node().Take(frame)
		if !bytes.Equal(frame[:len(all)], all) {
			t.Error("P1711: what was handed in has changed")
		}
		for i := range frame {
			frame[i] = 0
		}
	}
	for k := range 2 {
		if !bytes.Equal(d.read(0, k), fill(128, byte(k+1))) {
			t.Error("P1711: what was handed in is kept")
		}
	}
}

// TestMemoryAnswered: what is answered may be written over.
func TestMemoryAnswered(t *testing.T) {
	p := newPair(t, resource(), true)
	p.must("", p.promote(0, false))
	p.must("", p.write(0, 3, 7))
	for range 2 {
		o, _ := p.n[0].Submit(api.Op{Id: 9, Kind: api.OpRead, Block: 3})
		if !bytes.Equal(o.Answers[0].Data, fill(128, 7)) {
			t.Fatal("P1715: the answer is the node's own memory")
		}
		spoilMemory(o)
	}
	for range 2 {
		c := p.n[0].Covered()
		if !slices.Equal(c, []int{0}) {
			t.Fatalf("P1716: %v", c)
		}
		c[0] = 9
		_ = append(c, 8)
	}
	// Every answer of a whole resync is spoilt behind its being copied.
	copied := func(i int, o api.NodeOut) {
		for _, f := range o.Frames {
			p.way[1-i] = append(p.way[1-i], slices.Clone(f))
		}
		spoilMemory(o)
	}
	for i := range 2 {
		o, _ := p.n[i].Connect(false)
		copied(i, o)
	}
	for range 40 {
		for i := range 2 {
			row := p.way[i]
			p.way[i] = nil
			for _, f := range row {
				copied(i, p.n[i].Take(f))
			}
			copied(i, p.n[i].Tick())
		}
	}
	p.inSync("P1711: answers are new memory")
}

// TestMemoryKept: a node that is off keeps nothing.
func TestMemoryKept(t *testing.T) {
	d, _ := Disk(resource(), true, 1024)
	n, _ := New(d, resource(), 0)
	d.Fuse(0)
	n.Connect(false)
	if n.disk != nil || n.store != nil || n.handlers != nil || n.link != nil {
		t.Error("Power: a node that is off keeps its parts")
	}
}

// TestMemoryGreeting: a handshake that is over is not kept.
func TestMemoryGreeting(t *testing.T) {
	d := newDesk(t, resource(), 0)
	d.meet(false)
	d.sayBytes([]byte{99})
	if d.node().greeting != nil {
		t.Error("P1710: a handshake is not dropped")
	}
	d.joins(func(s *api.Self) {})
	if d.node().greeting != nil {
		t.Error("P1712: a handshake is kept")
	}
}

// TestNodesShareNothing: two nodes on two disks know nothing of each other.
func TestNodesShareNothing(t *testing.T) {
	a, b := newPair(t, resource(), true), newPair(t, resource(), true)
	before, image := b.n[0].Status(), b.d[0].Image()
	a.must("", a.promote(0, false))
	a.must("", a.write(0, 3, 7))
	a.join()
	if b.n[0].Status() != before || !bytes.Equal(image, b.d[0].Image()) {
		t.Error("P2: a node has heard of another one")
	}
}
