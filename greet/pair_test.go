package greet

import (
	"fmt"
	"reflect"
	"slices"
	"strings"
	"testing"

	"replica/api"
)

// dice: numbers for long rows of calls, the same at every run.
type dice uint64

func (d *dice) below(n int) int {
	*d = *d*6364136223846793005 + 1442695040888963407
	return int(uint64(*d) >> 33 % uint64(n))
}

func nonceOf(first byte) []byte {
	nonce := make([]byte, api.NonceSize)
	for i := range nonce {
		nonce[i] = first + byte(7*i)
	}
	return nonce
}

// bring is what the chapter's examples begin with: 70 blocks of 128 bytes, protocol C, no secret, Secondary and UpToDate.
func bring(node int, g api.Gens, marked ...int) api.Self {
	s := api.Self{Node: node, Nonce: nonceOf(byte(50 + 100*node)), Blocks: 70, Size: 128, Protocol: api.ProtoC, Gens: g, Disk: api.UpToDate}
	return withBlocks(s, 70, marked...)
}

func withBlocks(s api.Self, blocks int, marked ...int) api.Self {
	s.Blocks, s.Bits = blocks, make([]uint64, (blocks+63)/64)
	for _, i := range marked {
		s.Bits[i/64] |= 1 << (i % 64)
	}
	return s
}

func gens(current, bitmap, old1, old2 uint64) api.Gens {
	return api.Gens{Current: current, Bitmap: bitmap, Old1: old1, Old2: old2}
}

var calm = gens(20, 0, 10, 8)

func begin(t *testing.T, s api.Self) (*Machine, api.Packet) {
	t.Helper()
	m, e := New(s)
	if m == nil || e != api.OK {
		t.Fatalf("P1501: New(%s): %v, %v", tellSelf(s), m, e)
	}
	out, e := m.Start()
	if len(out) != 1 || e != api.OK {
		t.Fatalf("P1502: Start: %s, %v", tellPackets(out), e)
	}
	return m, out[0]
}

// wantReceive hands p in, and looks at the whole answer.
func wantReceive(t *testing.T, what string, m *Machine, p api.Packet, back []api.Packet, done bool, err api.Errno) {
	t.Helper()
	got, gotDone, e := m.Receive(p)
	if !samePackets(got, back) || gotDone != done || e != err {
		t.Errorf("%s: Receive(%s): %s, %v, %v, want %s, %v, %v", what, tell(p), tellPackets(got), gotDone, e, tellPackets(back), done, err)
	}
}

// wantRefusal hands p in, and looks whether the machine refuses for good.
func wantRefusal(t *testing.T, what string, m *Machine, p api.Packet, err api.Errno) {
	t.Helper()
	wantReceive(t, what, m, p, nil, false, err)
	wantRefused(t, what, m)
}

func wantRefused(t *testing.T, what string, m *Machine) {
	t.Helper()
	for cmd := range 9 {
		wantReceive(t, what+": P1503: behind a refusal", m, goodPacket(cmd), nil, false, api.ErrState)
	}
	if out, e := m.Start(); len(out) != 0 || e != api.ErrState {
		t.Errorf("%s: P1502: Start behind a refusal: %s, %v", what, tellPackets(out), e)
	}
	if d, e := m.Deal(); !reflect.DeepEqual(d, api.Deal{}) || e != api.ErrState {
		t.Errorf("%s: P1506: Deal behind a refusal: %+v, %v", what, d, e)
	}
	if !reflect.DeepEqual(*m, Machine{stage: hasRefused}) {
		t.Errorf("%s: a machine that has refused keeps %+v", what, *m)
	}
}

// goodPacket is one that may stand in a greeting of bring's devices.
func goodPacket(cmd int) api.Packet {
	switch cmd {
	case api.CmdFeature:
		return api.Packet{Cmd: cmd, Id: 86, Count: 90, Flags: 2}
	case api.CmdChallenge:
		return api.Packet{Cmd: cmd, Data: nonceOf(3)}
	case api.CmdSizes:
		return api.Packet{Cmd: cmd, Block: 70, Count: 128, Flags: 3}
	case api.CmdIds:
		return api.Packet{Cmd: cmd, Gens: calm}
	case api.CmdState:
		return api.Packet{Cmd: cmd, Flags: 8}
	case api.CmdBits:
		return api.Packet{Cmd: cmd, Count: 2, Data: []byte{0x01, 0x18}} // 70 clear bits
	}
	return api.Packet{Cmd: cmd}
}

// ending is what one side of a greeting came to.
type ending struct {
	m    *Machine
	err  api.Errno
	at   int // the command at which it refused or was done
	sent []api.Packet
}

// greetings lets two machines greet. The pick says, while both have something to come, which side takes its packet; a side that refused takes none.
func greetings(t *testing.T, a, b api.Self, pick func() int) [2]ending {
	t.Helper()
	var sides [2]ending
	for i, s := range []api.Self{a, b} {
		m, first := begin(t, s)
		sides[i] = ending{m: m, sent: []api.Packet{first}}
	}
	var taken [2]int
	for range 100 {
		i := pick()
		if taken[i] == len(sides[1-i].sent) || sides[i].at != 0 {
			i = 1 - i
		}
		if taken[i] == len(sides[1-i].sent) || sides[i].at != 0 {
			return sides
		}
		p := sides[1-i].sent[taken[i]]
		taken[i]++
		back, done, e := sides[i].m.Receive(p)
		sides[i].sent = append(sides[i].sent, back...)
		if done || e != api.OK {
			sides[i].err, sides[i].at = e, p.Cmd
		}
		if done && e != api.OK {
			t.Errorf("P1503: done, and %v", e)
		}
	}
	t.Fatalf("P1507: no end between %s and %s", tellSelf(a), tellSelf(b))
	return sides
}

func inTurn() func() int {
	i := 1
	return func() int { i = 1 - i; return i }
}

// wantDeals lets two nodes greet, and looks at the verdicts and bits that they come to.
func wantDeals(t *testing.T, what string, a, b api.Self, va, vb api.Verdict, bitsA, bitsB []uint64) {
	t.Helper()
	sides := greetings(t, a, b, inTurn())
	wantDeal(t, what, sides[0], b, va, bitsA)
	wantDeal(t, what, sides[1], a, vb, bitsB)
}

func wantDeal(t *testing.T, what string, side ending, peer api.Self, v api.Verdict, bits []uint64) {
	t.Helper()
	want := api.Deal{Version: 90, Verdict: v, Peer: peer.Gens, Flags: peer.Flags, Role: peer.Role, Disk: peer.Disk, Bits: bits}
	for range 2 {
		d, e := side.m.Deal()
		if !reflect.DeepEqual(d, want) || e != api.OK {
			t.Errorf("%s: node %d: Deal %+v, %v (refused with %v), want %+v", what, 1-peer.Node, d, e, side.err, want)
		}
	}
}

// wantBothRefuse lets two nodes greet, and looks whether both refuse with err at the packet cmd.
func wantBothRefuse(t *testing.T, what string, a, b api.Self, err api.Errno, cmd int) {
	t.Helper()
	for i, side := range greetings(t, a, b, inTurn()) {
		if side.err != err || side.at != cmd {
			t.Errorf("%s: side %d: %v at command %d, want %v at %d", what, i, side.err, side.at, err, cmd)
		}
		wantRefused(t, what, side.m)
	}
}

func samePackets(a, b []api.Packet) bool {
	return slices.EqualFunc(a, b, func(x, y api.Packet) bool { return tell(x) == tell(y) })
}

func tell(p api.Packet) string {
	return fmt.Sprintf("{%d: Id %d Block %d Epoch %d Count %d Flags %d Gens %v Sum %x Data %x}", p.Cmd, p.Id, p.Block, p.Epoch, p.Count, p.Flags, p.Gens, p.Sum, p.Data)
}

func tellPackets(list []api.Packet) string {
	var b strings.Builder
	for _, p := range list {
		b.WriteString(tell(p))
	}
	return "[" + b.String() + "]"
}

func tellSelf(s api.Self) string {
	return fmt.Sprintf("{node %d secret %q nonce %x, %d x %d protocol %d, gens %v flags %d, role %d disk %d, policies %d %d %d, bits %x}", s.Node, s.Secret, s.Nonce, s.Blocks, s.Size, s.Protocol, s.Gens, s.Flags, s.Role, s.Disk, s.Sb0, s.Sb1, s.Sb2, s.Bits)
}
