package node

import (
	"bytes"
	"testing"

	"replica/api"
	"replica/disk"
)

// isOffNow: every call of a node that is off.
func isOffNow(t *testing.T, n *Node, d *disk.Disk, frame []byte) {
	t.Helper()
	image, counts := d.Image(), d.Counts()
	calls := []func() (api.NodeOut, api.Errno){
		func() (api.NodeOut, api.Errno) { return n.Connect(false) },
		func() (api.NodeOut, api.Errno) { return n.Connect(true) },
		n.Disconnect, n.Demote, n.Verify, n.Invalidate,
		func() (api.NodeOut, api.Errno) { return n.Promote(false) },
		func() (api.NodeOut, api.Errno) { return n.Promote(true) },
		func() (api.NodeOut, api.Errno) { return n.Submit(api.Op{Id: 1, Kind: api.OpRead}) },
		func() (api.NodeOut, api.Errno) { return n.Submit(api.Op{}) },
		func() (api.NodeOut, api.Errno) { return n.Take(frame), api.ErrOff },
		func() (api.NodeOut, api.Errno) { return n.Take(nil), api.ErrOff },
		func() (api.NodeOut, api.Errno) { return n.Tick(), api.ErrOff },
	}
	for k, call := range calls {
		if o, e := call(); e != api.ErrOff || len(o.Frames)+len(o.Answers) > 0 {
			t.Fatalf("Power: call %d of a node that is off: %v, %+v", k, e, o)
		}
	}
	if n.Status() != (api.Status{}) || n.Progress() != (api.Progress{}) || n.Gens() != (api.Gens{}) || len(n.Covered()) > 0 || n.Why() != api.OK {
		t.Fatal("Power: a node that is off tells something")
	}
	if !bytes.Equal(image, d.Image()) || counts != d.Counts() {
		t.Fatal("Power: a node that is off does something to its disk")
	}
}

// scenes: what two nodes may be about when the power goes.
func scenes() map[string]func(p *pair) {
	apart := func(p *pair) {
		p.promote(0, false)
		for b := range 6 {
			if p.n[0] != nil {
				p.write(0, b, byte(b+1))
			}
		}
	}
	meet := func(p *pair) {
		for i := range 2 {
			if p.n[i] != nil {
				p.connect(i, false)
			}
		}
		p.rounds(25)
	}
	return map[string]func(p *pair){
		"alone": func(p *pair) {
			apart(p)
			if p.n[0] != nil {
				p.submit(0, api.OpFlush, 0, nil)
			}
			if p.n[0] != nil {
				p.demote(0)
			}
			if p.n[1] != nil {
				p.invalidate(1)
			}
			if p.n[1] != nil {
				p.promote(1, true)
			}
		},
		"resync": func(p *pair) { apart(p); meet(p) },
		"writes": func(p *pair) {
			meet(p)
			if p.n[0] != nil {
				p.promote(0, false)
			}
			for k := range 12 {
				if p.n[0] != nil {
					p.write(0, k%8, byte(k))
				}
				if k%3 == 0 {
					p.rounds(1)
				}
			}
			if p.n[0] != nil {
				p.submit(0, api.OpFlush, 0, nil)
			}
			p.rounds(6)
			for i := range 2 {
				if p.n[i] != nil {
					p.verify(i)
				}
			}
			p.rounds(6)
			for i := range 2 {
				if p.n[i] != nil {
					p.disconnect(i)
				}
			}
			p.rounds(2)
		},
		"crashed": func(p *pair) { // a source with FlagCrashed, found again
			meet(p)
			if p.n[0] != nil {
				p.promote(0, false)
			}
			if p.n[0] != nil {
				p.write(0, 3, 9)
			}
			if p.n[0] != nil {
				p.crash(0, nil)
				p.up(0)
			}
			meet(p)
		},
	}
}

// TestPower: the power goes at every writing step of every scene, at each node; the step gives nothing, the node is off for good, and a new one starts.
func TestPower(t *testing.T) {
	for name, scene := range scenes() {
		for i := range 2 {
			gone := 0
			for steps := 0; ; steps++ {
				p := newModelled(t, resource(), true, map[string]int{})
				var off *Node
				watched := p.n[i]
				p.lost = func(k int) {
					if k == i && watched.Status() == (api.Status{}) { // by the fuse
						off = watched
					}
				}
				p.fuse(i, steps, []byte{byte(steps), 1, 2})
				scene(p)
				if off == nil {
					break
				}
				gone++
				isOffNow(t, off, p.d[i], nil)
				again(t, p, name)
			}
			if gone < 3 {
				t.Errorf("Power: %s: node %d lost it at %d steps", name, i, gone)
			}
		}
	}
}

// again: both nodes start anew, and what is not a split brain comes together.
func again(t *testing.T, p *pair, name string) {
	t.Helper()
	p.lost = func(int) {}
	p.way = [2][][]byte{}
	for i := range 2 {
		p.fuse(i, -1, nil)
		if p.n[i] == nil && !p.up(i) {
			t.Fatalf("P1702: %s: node %d does not start", name, i)
		}
		if p.n[i].Status().Conn == api.StandAlone {
			p.connect(i, false)
		}
	}
	p.rounds(120)
	if name == "alone" { // both were primary
		return
	}
	p.inSync("behind a loss of power: " + name)
}

// TestPowerBetween: the power may go by another hand, between two calls.
func TestPowerBetween(t *testing.T) {
	d, _ := Disk(resource(), true, 1024)
	n, _ := New(d, resource(), 0)
	o, _ := n.Connect(false)
	d.Fuse(0)
	d.Flush()
	isOffNow(t, n, d, o.Frames[0])
	d.Crash(nil)
	isOffNow(t, n, d, o.Frames[0])
}

// TestPowerStays: a disk that has its power again does not bring the node back.
func TestPowerStays(t *testing.T) {
	d, _ := Disk(resource(), true, 1024)
	n, _ := New(d, resource(), 0)
	d.Fuse(0)
	if _, e := n.Promote(false); e != api.ErrOff {
		t.Fatalf("Power: %v", e)
	}
	isOffNow(t, n, d, nil)
	d.Crash(nil)
	isOffNow(t, n, d, nil)
	if n, e := New(d, resource(), 0); e != api.OK || n.Gens() != (api.Gens{Current: 1024}) {
		t.Errorf("P1702: %v", e)
	}
}
