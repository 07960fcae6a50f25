package node

import (
	"bytes"
	"slices"
	"testing"

	"replica/api"
)

// TestExamples: the chapter's examples 2 to 5, one behind the other.
func TestExamples(t *testing.T) {
	p := newPair(t, resource(), true)
	for _, op := range []api.Op{{Id: 1, Kind: api.OpRead}, {Id: 1, Kind: api.OpWrite, Data: fill(128, 1)}, {Id: 1, Kind: api.OpZero}, {Id: 1, Kind: api.OpFlush}, {}} {
		if _, e := p.n[0].Submit(op); e != api.ErrRole {
			t.Errorf("example 2: %v", e)
		}
	}
	p.must("example 2", p.promote(0, false))
	if g := p.n[0].Gens(); g != (api.Gens{Current: 72, Bitmap: 1024}) {
		t.Errorf("example 2: %v", g)
	}
	p.want("example 2", p.promote(0, false), api.ErrState)
	p.must("example 3", p.write(0, 3, 7))
	if a := p.answered(); len(a) != 1 || a[0].Id != 1 || a[0].Err != api.OK {
		t.Errorf("example 3: %v", a)
	}
	if s := p.n[0].Status(); s.OutOfSync != 1 || !slices.Equal(p.n[0].Covered(), []int{0}) {
		t.Errorf("example 3: %+v", s)
	}
	p.must("example 4", p.connect(0, false))
	p.must("example 4", p.connect(1, false))
	for len(p.way[0])+len(p.way[1]) > 0 {
		p.deliver(0, 0)
		p.deliver(1, 0)
	}
	p.conns("example 4", api.SyncSource, api.SyncTarget)
	if s := p.n[1].Status(); s.OutOfSync != 1 || s.Peer != api.Primary {
		t.Errorf("example 4: %+v", s)
	}
	p.rounds(10)
	p.inSync("example 4")
	if !bytes.Equal(p.durable(1)[3*128:4*128], fill(128, 7)) {
		t.Error("example 4: the block has not come over")
	}
	for i := range 2 {
		if g := p.n[i].Gens(); g != (api.Gens{Current: 72, Old1: 1024}) {
			t.Errorf("example 4: %v", g)
		}
	}
	p.want("example 5", p.promote(1, false), api.ErrPeer)
	p.must("example 5", p.demote(0))
	p.rounds(1)
	p.must("example 5", p.promote(1, false))
	if g := p.n[1].Gens(); g != (api.Gens{Current: 72, Old1: 1024}) {
		t.Errorf("example 5: %v", g)
	}
}
