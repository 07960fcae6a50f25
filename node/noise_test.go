package node

import (
	"bytes"
	"testing"

	"replica/api"
	"replica/wire"
)

// stages brings a node into each state of its connection, with a hand as its peer.
func stages() []func(d *desk) {
	target := func(d *desk) {
		d.joins(func(s *api.Self) { s.Gens, s.Bits = api.Gens{Current: 2000, Bitmap: 1024}, []uint64{0x66} })
	}
	return []func(d *desk){
		func(d *desk) { d.lookUp() },
		func(d *desk) { d.must("", d.connect(0, false)); d.lookUp() },
		func(d *desk) { d.meet(false) },
		func(d *desk) { d.joins(func(s *api.Self) {}) },
		func(d *desk) {
			d.joins(func(s *api.Self) {})
			d.must("", d.promote(0, false))
			d.must("", d.write(0, 2, 1))
		},
		func(d *desk) { d.joins(func(s *api.Self) { s.Bits = []uint64{0x66} }) },
		target,
		func(d *desk) { target(d); d.say(gensOf(api.Gens{Current: 2000, Bitmap: 1024})); d.tickNode() },
		func(d *desk) {
			d.joins(func(s *api.Self) {})
			d.must("", d.promote(0, false))
			d.must("", d.verify(0))
			d.tickNode()
		},
		func(d *desk) {
			d.joins(func(s *api.Self) {})
			d.say(api.Packet{Cmd: api.CmdVerifyRequest, Id: 1, Block: 2})
		},
	}
}

// view is what a node's data blocks hold, cached or not.
func view(d *desk) []byte {
	var all []byte
	for b := range d.c.Blocks {
		all = append(all, d.read(0, b)...)
	}
	return all
}

// randomPacket: any command, with numbers that are near to what may fit.
func randomPacket(r *dice) api.Packet {
	list := commands()
	p := list[r.below(len(list))]
	if p.Id != 0 {
		p.Id = uint32(r.one(1, 1, 2, 3, 1<<31-1))
	}
	if p.Cmd >= api.CmdData && p.Cmd != api.CmdGens {
		p.Block = p.Block &^ 15
		if p.Id != 0 {
			p.Block = uint32(r.one(0, 1, 2, 5, 6, 7, 8, 4095))
		}
	}
	if p.Cmd == api.CmdState {
		p.Flags = uint32(r.one(0, 1, 4, 5, 8, 9))
	}
	if len(p.Data) == 128 && r.below(4) == 0 {
		p.Data = fill(r.one(1, 127, 129, 1024), 9)
	}
	return p
}

// TestNoisePackets is P1717: a peer that says anything. What changes a data block is a Data, a Zero or a SyncData of a joined peer.
func TestNoisePackets(t *testing.T) {
	for k, stage := range stages() {
		for seed := range 120 {
			r := dice(seed*100 + k)
			r.below(2)
			d := newDesk(t, resource(), 0)
			stage(d)
			d.exchange()
			for range 12 {
				if d.l.State() != api.LinkOpen && d.status().Conn == api.Connecting {
					d.lookUp()
					d.exchange()
				}
				p := randomPacket(&r)
				b, e := wire.EncodePacket(p)
				if e != api.OK {
					continue
				}
				if r.below(8) == 0 {
					b[r.below(len(b))] ^= 1 << r.below(8)
				}
				before, joined, role := view(d), d.status().Conn >= api.Connected, d.status().Role
				d.l.Send(b)
				d.exchange()
				writes := p.Cmd == api.CmdData || p.Cmd == api.CmdZero || p.Cmd == api.CmdSyncData
				if !bytes.Equal(before, view(d)) && (!writes || !joined || role == api.Primary) {
					t.Fatalf("P1717: stage %d: %s has changed the data", k, tellPackets([]api.Packet{p}))
				}
				if r.below(3) == 0 {
					d.tick(0)
				}
			}
		}
	}
}

// TestNoiseFrames: frames that are forged, broken, doubled, late.
func TestNoiseFrames(t *testing.T) {
	for k, stage := range stages() {
		for seed := range 60 {
			r := dice(seed*100 + k)
			r.below(2)
			d := newDesk(t, resource(), 0)
			stage(d)
			var old [][]byte
			before := view(d)
			for range 40 {
				f := api.Frame{Kind: 1 + r.below(4), From: uint32(r.one(0, 1, 100, 101, 102, 1<<31, 1<<32-1)), To: uint32(r.one(0, 1, 2, 3, 4, 5, 6, 1<<32-1)),
					Seq: uint32(r.one(0, 700, 707, 708, 709, 1<<31, 1<<32-1)), Ack: uint32(r.below(1 << 32))}
				if f.Kind == api.FrameData {
					f.Payload = fill(1+r.below(2048), byte(r.below(30)), 0)
				}
				b, _ := wire.EncodeFrame(f)
				switch r.below(6) {
				case 0:
					b = b[:r.below(len(b))]
				case 1:
					b[r.below(len(b))] ^= byte(1 + r.below(255))
				case 2:
					if len(old) > 0 {
						b = old[r.below(len(old))]
					}
				case 3:
					d.l.Tick()
					if out := d.l.Out(); len(out) > 0 {
						b = out[r.below(len(out))]
					}
				}
				old = append(old, b)
				d.take(0, b)
				if r.below(4) == 0 {
					d.tick(0)
				}
			}
			if !bytes.Equal(before, view(d)) {
				t.Fatalf("P1717: stage %d: the data have changed", k)
			}
		}
	}
}

// TestNoiseCalls: calls of all kinds in every state, with every kind of number.
func TestNoiseCalls(t *testing.T) {
	numbers := []int{-1 << 63, -1, 0, 1, 2, 3, 4, 5, 7, 8, 1 << 31, 1<<63 - 1}
	for k, stage := range stages() {
		for seed := range 30 {
			r := dice(seed*100 + k)
			r.below(2)
			d := newDesk(t, resource(), 0)
			stage(d)
			for range 40 {
				if r.below(3) > 0 {
					op := api.Op{Id: r.one(numbers...), Kind: r.one(numbers...), Block: r.one(numbers...), Data: fill(r.one(0, 1, 128, 2000), 1)}
					d.call(0, func(n machine) (api.NodeOut, api.Errno) { return n.Submit(op) })
					continue
				}
				switch r.below(7) {
				case 0:
					d.connect(0, r.below(2) == 0)
				case 1:
					d.disconnect(0)
				case 2:
					d.promote(0, r.below(2) == 0)
				case 3:
					d.demote(0)
				case 4:
					d.verify(0)
				case 5:
					d.invalidate(0)
				default:
					d.tick(0)
				}
			}
		}
	}
}
