package greet

import (
	"math"
	"reflect"
	"testing"

	"replica/api"
	"replica/ident"
)

// identifiers that meet often, and the two that are none.
var someIds = []uint64{0, 4, 10, 20, 30}

func randomGens(d *dice) api.Gens {
	id := func() uint64 { return someIds[d.below(len(someIds))] }
	return gens(id(), id(), id(), id())
}

// randomSelf: what a node may bring; mostly the device and secret of the examples.
func randomSelf(d *dice, node int) api.Self {
	s := bring(node, randomGens(d))
	s = withBlocks(s, []int{70, 70, 70, 1, 64, 600, 4096}[d.below(7)])
	if d.below(3) > 0 {
		s.Bits = randomWords(d, s.Blocks)
	}
	s.Secret = []string{"", "", "green", "green", "blue"}[d.below(5)]
	s.Flags = uint32(d.below(32))
	s.Role, s.Disk = d.below(3)/2, []int{0, 1, 2, 2, 2}[d.below(5)]
	s.Sb0, s.Sb1 = d.below(5), []int{0, 5, 6}[d.below(3)]
	return s
}

// peerOf: a node that fits s as a rule: the other number, the same device; its identifiers are often those of s, a little changed.
func peerOf(d *dice, s api.Self) api.Self {
	p := randomSelf(d, 1-s.Node)
	p = withBlocks(p, s.Blocks)
	if d.below(3) > 0 {
		p.Bits = randomWords(d, p.Blocks)
	}
	p.Secret, p.Sb0, p.Sb1 = s.Secret, s.Sb0, s.Sb1
	switch d.below(4) {
	case 0:
		p.Gens = s.Gens
	case 1:
		p.Gens = gens(s.Gens.Bitmap, 0, s.Gens.Old1, 0)
	case 2:
		p.Gens.Bitmap = s.Gens.Bitmap
	}
	switch d.below(30) {
	case 0:
		p.Node = s.Node
	case 1:
		p.Secret = []string{"", "green", "blue", "green\x00"}[d.below(4)]
	case 2:
		p.Protocol, p.Size = 1+d.below(3), 128<<d.below(4)
	case 3:
		p.Sb0 = d.below(5)
	case 4:
		p.Sb1 = []int{0, 5, 6}[d.below(3)]
	case 5:
		p = withBlocks(p, 1+d.below(100))
	}
	return p
}

var someNumbers = []uint32{0, 1, 2, 3, 4, 8, 9, 31, 32, 64, 70, 85, 86, 90, 91, 128, 4096, 4097, 1 << 31, math.MaxUint32}

// spoil changes one thing of a packet.
func spoil(d *dice, p api.Packet) api.Packet {
	p.Data = append([]byte{}, p.Data...)
	number := []*uint32{&p.Id, &p.Block, &p.Epoch, &p.Count, &p.Flags}[d.below(5)]
	switch d.below(9) {
	case 8:
		p.Id = 85 + uint32(d.below(8))
		p.Count = p.Id + uint32(d.below(4))
	case 0:
		p.Cmd = d.below(28) - 1
	case 1:
		*number++
	case 2:
		*number--
	case 3:
		*number = someNumbers[d.below(len(someNumbers))]
	case 4:
		p.Sum[d.below(32)] ^= 1 << d.below(8)
	case 5:
		p.Gens = randomGens(d)
	case 6:
		if len(p.Data) > 0 {
			p.Data[d.below(len(p.Data))] ^= 1 << d.below(8)
		}
	case 7:
		p.Data = append(p.Data, byte(d.below(256)))
		p.Data = p.Data[d.below(2):]
	}
	return p
}

// both: a machine and the model of it, which get the same calls.
type both struct {
	t     *testing.T
	m     *Machine
	p     *plain
	calls []string
}

func newBoth(t *testing.T, s api.Self, seen map[string]int) *both {
	t.Helper()
	b := &both{t: t, calls: []string{"New(" + tellSelf(s) + ")"}}
	var e, f api.Errno
	b.m, e = New(s)
	b.p, f = newPlain(s, seen)
	if e != f || (b.m == nil) != (b.p == nil) {
		t.Fatalf("P1501: New(%s): %v, %v, want %v", tellSelf(s), b.m != nil, e, f)
	}
	return b
}

func (b *both) start() []api.Packet {
	b.t.Helper()
	out, e := b.m.Start()
	want, f := b.p.start()
	b.calls = append(b.calls, "Start")
	if !samePackets(out, want) || e != f {
		b.t.Fatalf("P1502: %q: %s, %v, want %s, %v", b.calls, tellPackets(out), e, tellPackets(want), f)
	}
	return out
}

func (b *both) receive(p api.Packet) ([]api.Packet, bool, api.Errno) {
	b.t.Helper()
	out, done, e := b.m.Receive(p)
	want, wantDone, f := b.p.receive(p)
	b.calls = append(b.calls, tell(p))
	if !samePackets(out, want) || done != wantDone || e != f {
		b.t.Fatalf("P1503: %q: %s, %v, %v, want %s, %v, %v", b.calls, tellPackets(out), done, e, tellPackets(want), wantDone, f)
	}
	b.deal()
	return out, done, e
}

func (b *both) deal() (api.Deal, api.Errno) {
	b.t.Helper()
	deal, e := b.m.Deal()
	want, f := b.p.deal()
	if !reflect.DeepEqual(deal, want) || e != f {
		b.t.Fatalf("P1506: %q: Deal %+v, %v, want %+v, %v", b.calls, deal, e, want, f)
	}
	return deal, e
}

func wantSeen(t *testing.T, seen map[string]int, names ...string) {
	t.Helper()
	for _, name := range names {
		if seen[name] == 0 {
			t.Errorf("never come by: %s (%v)", name, seen)
		}
	}
}

// TestRows: P1501 to P1506: two machines and their models greet; packets are spoilt, left out, told twice, and calls come that do not fit.
func TestRows(t *testing.T) {
	seen := map[string]int{}
	for seed := range 6000 {
		d := dice(seed)
		one := randomSelf(&d, d.below(2))
		sides := [2]*both{newBoth(t, one, seen), newBoth(t, peerOf(&d, one), seen)}
		var queues [2][]api.Packet // what is on its way to each
		trouble := 4 * d.below(15)
		for range 60 {
			i := d.below(2)
			if d.below(6) == 0 || len(sides[i].calls) == 1 && d.below(3) > 0 {
				queues[1-i] = append(queues[1-i], sides[i].start()...)
				continue
			}
			if len(queues[i]) == 0 {
				continue
			}
			p := queues[i][0]
			if trouble == 0 || d.below(trouble) > 0 {
				queues[i] = queues[i][1:]
			} else if d.below(2) == 0 {
				p = spoil(&d, p)
			}
			out, _, _ := sides[i].receive(p)
			queues[1-i] = append(queues[1-i], out...)
		}
	}
	errs := func(e api.Errno) string { return ": " + e.Error() }
	wantSeen(t, seen, "new: no packet", "done: no packet", "refused: no packet",
		"Feature"+errs(api.ErrProto), "Feature"+errs(api.ErrAuth), "Feature"+errs(api.ErrVersion), "Feature: then Challenge", "Feature: then Sizes",
		"Challenge"+errs(api.ErrProto), "Challenge: then Response", "Response"+errs(api.ErrProto), "Response"+errs(api.ErrAuth), "Response: then Sizes",
		"Sizes"+errs(api.ErrProto), "Sizes"+errs(api.ErrSizes), "Sizes: then Ids", "Ids"+errs(api.ErrProto), "Ids: then State",
		"State"+errs(api.ErrProto), "State"+errs(api.ErrDisk), "State"+errs(api.ErrUnrelated), "State"+errs(api.ErrSplit), "State"+errs(api.ErrPrimary), "State: then Bits", "State: then done",
		"Bits"+errs(api.ErrProto), "Bits: then Bits", "Bits: then done")
}

// TestEveryNoise: P1503: every row of up to eight packets of a few kinds, right and wrong, in any order; at most one behind a refusal.
func TestEveryNoise(t *testing.T) {
	seen := map[string]int{}
	secret := bring(0, gens(20, 10, 8, 0), 2)
	secret.Secret = "green"
	older := api.Packet{Cmd: api.CmdIds, Gens: gens(10, 0, 8, 0), Count: 1}
	kinds := []api.Packet{
		goodPacket(api.CmdFeature), {Cmd: api.CmdFeature, Id: 86, Count: 90, Flags: 3}, goodPacket(api.CmdChallenge),
		{Cmd: api.CmdResponse, Sum: mac("green", secret.Nonce, 1)}, goodPacket(api.CmdSizes), goodPacket(api.CmdIds), older,
		goodPacket(api.CmdState), goodPacket(api.CmdBits), {Cmd: api.CmdState, Flags: 2},
	}
	selves := []api.Self{bring(0, gens(20, 10, 8, 0), 2), secret}
	for _, s := range selves {
		var row []api.Packet
		var grow func()
		grow = func() {
			b := newBoth(t, s, seen)
			b.start()
			over := 0
			for _, p := range row {
				if b.p.stage == "refused" {
					over++
				}
				b.receive(p)
			}
			if len(row) == 8 || over > 0 {
				return
			}
			for _, p := range kinds {
				row = append(row, p)
				grow()
				row = row[:len(row)-1]
			}
		}
		grow()
	}
	wantSeen(t, seen, "Feature: then Sizes", "Feature: then Challenge", "Response: then Sizes", "State: then Bits", "Bits: then done", "done: no packet", "refused: no packet")
}

// sameEnd: P1507 for two nodes whose packets come over in any order of the sides.
func sameEnd(t *testing.T, a, b api.Self, pick func() int, seen map[string]int) {
	t.Helper()
	sides := greetings(t, a, b, pick)
	x, e := sides[0].m.Deal()
	y, f := sides[1].m.Deal()
	switch {
	case sides[0].err != sides[1].err || e != f:
		t.Errorf("P1507: %s and %s: %v at %d and %v at %d", tellSelf(a), tellSelf(b), sides[0].err, sides[0].at, sides[1].err, sides[1].at)
	case sides[0].err != api.OK:
		seen[sides[0].err.Error()]++
		if sides[0].at != sides[1].at {
			t.Errorf("P1507: %s and %s: refused at %d and at %d", tellSelf(a), tellSelf(b), sides[0].at, sides[1].at)
		}
	case e != api.OK:
		t.Errorf("P1507: %s and %s: neither refused nor done", tellSelf(a), tellSelf(b))
	default:
		seen[[]string{"no sync", "bits", "bits", "full", "full"}[x.Verdict.Kind]]++
		if x.Version != y.Version || y.Verdict != ident.Mirror(x.Verdict) || x.Verdict.Kind != api.NoSync && !reflect.DeepEqual(x.Bits, y.Bits) {
			t.Errorf("P1507: %s and %s: %+v and %+v", tellSelf(a), tellSelf(b), x, y)
		}
		if target := map[int]int{api.SourceBits: b.Role, api.SourceFull: b.Role, api.TargetBits: a.Role, api.TargetFull: a.Role}[x.Verdict.Kind]; target == api.Primary {
			t.Errorf("P1504: %s and %s: a primary is the target: %+v", tellSelf(a), tellSelf(b), x)
		}
	}
}

// TestSameEnd: P1507: pairs of nodes at random.
func TestSameEnd(t *testing.T) {
	seen := map[string]int{}
	for seed := range 12000 {
		d := dice(seed)
		a := randomSelf(&d, d.below(2))
		sameEnd(t, a, peerOf(&d, a), func() int { return d.below(2) }, seen)
	}
	wantSeen(t, seen, "no sync", "bits", "full")
	for _, e := range []api.Errno{api.ErrProto, api.ErrAuth, api.ErrSizes, api.ErrSplit, api.ErrUnrelated, api.ErrPrimary, api.ErrDisk} {
		wantSeen(t, seen, e.Error())
	}
}

// TestEveryState: P1504 and P1507: every pair of roles, disks and marks, over identifiers of every rule, held against the model too.
func TestEveryState(t *testing.T) {
	seen := map[string]int{}
	pairs := [][2]api.Gens{
		{gens(4, 0, 0, 0), gens(0, 0, 0, 0)}, {calm, gens(4, 0, 0, 0)}, {calm, calm}, {gens(20, 10, 0, 0), gens(20, 0, 0, 0)}, {gens(20, 10, 0, 0), gens(20, 12, 0, 0)},
		{gens(20, 10, 0, 0), gens(10, 20, 0, 0)}, {gens(20, 10, 0, 0), gens(10, 0, 0, 0)}, {gens(20, 0, 10, 0), gens(10, 0, 20, 0)}, {gens(20, 0, 10, 0), gens(10, 0, 8, 0)},
		{gens(20, 10, 0, 0), gens(22, 10, 0, 0)}, {gens(20, 10, 0, 0), gens(22, 0, 10, 0)}, {calm, gens(22, 0, 0, 0)},
	}
	for _, pair := range pairs {
		for state := range 2 * 2 * 3 * 3 * 4 * 5 {
			a, b := bring(0, pair[0]), bring(1, pair[1])
			a.Role, b.Role, a.Disk, b.Disk = state%2, state/2%2, state/4%3, state/12%3
			a.Bits[0], b.Bits[0] = uint64(state/36%2), uint64(state/72%2*6)
			a.Sb0 = state / 144
			b.Sb0 = a.Sb0
			if a.Sb0 > 1 {
				a.Sb1, b.Sb1 = 4+a.Sb0%3, 4+a.Sb0%3
			}
			if a.Sb1 == 4 {
				a.Sb1, b.Sb1 = 0, 0
			}
			for swap := range 2 {
				x, y := a, b
				if swap == 1 {
					x.Node, y.Node = 1, 0
				}
				sameEnd(t, x, y, inTurn(), seen)
				againstPlain(t, x, y)
			}
		}
	}
	wantSeen(t, seen, "no sync", "bits", "full", api.ErrSplit.Error(), api.ErrUnrelated.Error(), api.ErrPrimary.Error(), api.ErrDisk.Error())
}

// againstPlain hands what y says to x and to the model of x.
func againstPlain(t *testing.T, x, y api.Self) {
	t.Helper()
	b := newBoth(t, x, map[string]int{})
	peer, e := newPlain(y, map[string]int{})
	if e != api.OK {
		t.Fatal(e)
	}
	first, _ := peer.start()
	told, _ := peer.tellAll()
	b.start()
	for _, p := range append(append(first, told...), bitsPackets(peer.own)...) {
		b.receive(p)
	}
}

// TestAnySelf: P1501 and P1508: whatever a node brings.
func TestAnySelf(t *testing.T) {
	ints := []int{math.MinInt, -1, 0, 1, 2, 3, 4, 5, 6, 7, 70, 128, 256, 1024, 4096, 4097, math.MaxInt}
	seen := map[string]int{}
	made := 0
	for seed := range 40000 {
		d := dice(seed)
		s := randomSelf(&d, d.below(2))
		number := func() int { return ints[d.below(len(ints))] }
		for range d.below(3) {
			field := []*int{&s.Node, &s.Blocks, &s.Size, &s.Protocol, &s.Role, &s.Disk, &s.Sb0, &s.Sb1, &s.Sb2}[d.below(9)]
			*field = number()
		}
		switch d.below(12) {
		case 0:
			s.Nonce = make([]byte, d.below(40))
		case 1:
			s.Bits = make([]uint64, d.below(70))
		case 2:
			s.Bits[d.below(len(s.Bits))] = math.MaxUint64
		case 3:
			s.Flags = someNumbers[d.below(len(someNumbers))]
		case 4:
			s.Secret = string(make([]byte, d.below(130)))
		}
		if b := newBoth(t, s, seen); b.m != nil {
			made++
			b.start()
		}
	}
	if made < 1000 || made > 39000 {
		t.Errorf("%d machines of 40000 were made", made)
	}
}
