package greet

import (
	"bytes"
	"math"
	"slices"
	"testing"

	"replica/api"
)

// roomy gives a copy of list with spare room behind it, and that room.
func roomy[T any](list []T, fill T) ([]T, []T) {
	whole := make([]T, len(list)+9)
	copy(whole, list)
	for i := len(list); i < len(whole); i++ {
		whole[i] = fill
	}
	return whole[:len(list)], whole[len(list):]
}

func scribble[T any](list []T, fill T) {
	list = list[:cap(list)]
	for i := range list {
		list[i] = fill
	}
}

// TestBroughtIsNotKept: P1501: what self's lists hold is taken at New; they are neither kept nor changed, nor their spare room.
func TestBroughtIsNotKept(t *testing.T) {
	clean := bring(0, gens(20, 10, 8, 0), 0, 69)
	clean.Secret = "green"
	peer := bring(1, gens(10, 0, 8, 0), 3)
	peer.Secret = "green"
	want := greetings(t, clean, peer, inTurn())

	s := clean
	nonce, nonceRoom := roomy(clean.Nonce, 0xee)
	words, wordsRoom := roomy(clean.Bits, 0xeeee)
	s.Nonce, s.Bits = nonce, words
	m, e := New(s)
	if e != api.OK || !bytes.Equal(nonce, clean.Nonce) || !slices.Equal(words, clean.Bits) || slices.ContainsFunc(nonceRoom, func(x byte) bool { return x != 0xee }) || slices.ContainsFunc(wordsRoom, func(x uint64) bool { return x != 0xeeee }) {
		t.Errorf("P1501: New changes what is brought: %v, %x, %x", e, nonce, words)
	}
	scribble(nonce, 0)
	scribble(words, math.MaxUint64)
	sent, e := m.Start()
	if e != api.OK {
		t.Fatal(e)
	}
	for _, p := range want[1].sent {
		back, _, _ := m.Receive(p)
		sent = append(sent, back...)
	}
	if !samePackets(sent, want[0].sent) {
		t.Errorf("P1501: New keeps what is brought: %s, want %s", tellPackets(sent), tellPackets(want[0].sent))
	}
	if d, e := m.Deal(); e != api.OK || !slices.Equal(d.Bits, []uint64{9, 32}) {
		t.Errorf("P1501: New keeps what is brought: %x, %v", d.Bits, e)
	}
}

// TestGivenIsNotKept: P1508: a packet's Data is neither kept nor changed, nor its spare room.
func TestGivenIsNotKept(t *testing.T) {
	a, b := bring(0, gens(20, 10, 8, 0), 0, 69), bring(1, gens(10, 0, 8, 0), 3)
	a, b = withBlocks(a, 1200, 0, 600, 1199), withBlocks(b, 1200, 3, 1100)
	a.Secret, b.Secret = "green", "green"
	want := greetings(t, a, b, inTurn())
	wanted, _ := want[0].m.Deal()
	m, _ := begin(t, a)
	var sent []api.Packet
	for _, p := range want[1].sent {
		data, room := roomy(p.Data, 0xee)
		given := p
		given.Data = data
		back, _, e := m.Receive(given)
		if e != api.OK || !bytes.Equal(data, p.Data) || slices.ContainsFunc(room, func(x byte) bool { return x != 0xee }) {
			t.Errorf("P1508: Receive(%s) changes what it is given: %x, %v", tell(p), data, e)
		}
		scribble(data, 0xff)
		sent = append(sent, back...)
	}
	if d, e := m.Deal(); e != api.OK || !slices.Equal(d.Bits, wanted.Bits) || !samePackets(sent, want[0].sent[1:]) {
		t.Errorf("P1508: Receive keeps what it is given: %x, %v, want %x", d.Bits, e, wanted.Bits)
	}
}

// TestAnswersAreNew: P1508: who writes into an answer, its spare room included, changes nothing else.
func TestAnswersAreNew(t *testing.T) {
	a, b := withBlocks(bring(0, gens(20, 10, 8, 0)), 4096, 0, 600, 4095), withBlocks(bring(1, gens(10, 0, 8, 0)), 4096, 3, 1100)
	a.Secret, b.Secret = "green", "green"
	want := greetings(t, a, b, inTurn())
	m, e := New(a)
	if e != api.OK {
		t.Fatal(e)
	}
	spoilt := func(list []api.Packet) {
		for i := range list {
			before := tellPackets(list[i+1:])
			scribble(list[i].Data, 0xff)
			if tellPackets(list[i+1:]) != before {
				t.Errorf("P1508: two lists of one answer share memory: %s", tellPackets(list))
			}
		}
		scribble(list, api.Packet{Cmd: 99, Data: []byte{99}})
	}
	first, _ := m.Start()
	sent := tellPackets(first)
	spoilt(first)
	for _, p := range want[1].sent {
		back, _, e := m.Receive(p)
		if e != api.OK {
			t.Fatalf("P1508: Receive(%s): %v", tell(p), e)
		}
		sent += tellPackets(back)
		spoilt(back)
	}
	whole := ""
	for _, p := range want[0].sent {
		whole += tell(p)
	}
	if stripped(sent) != stripped(whole) {
		t.Errorf("P1508: an answer that was written into changes later ones: %s, want %s", sent, whole)
	}
	wanted, _ := want[0].m.Deal()
	for range 3 {
		d, e := m.Deal()
		if e != api.OK || !slices.Equal(d.Bits, wanted.Bits) {
			t.Errorf("P1508: a deal that was written into: %x, %v", d.Bits, e)
		}
		scribble(d.Bits, math.MaxUint64)
	}
}

func stripped(s string) string {
	return string(bytes.Map(func(r rune) rune {
		if r == '[' || r == ']' {
			return -1
		}
		return r
	}, []byte(s)))
}

// TestAnswersOfDealAreNew: P1508: also where the deal's bits are this node's own, or all.
func TestAnswersOfDealAreNew(t *testing.T) {
	for _, g := range []api.Gens{calm, gens(4, 0, 0, 0)} {
		a, b := bring(0, calm, 1), bring(1, g)
		a.Disk, b.Disk = api.Outdated, api.Outdated
		side := greetings(t, a, b, inTurn())[0]
		first, e := side.m.Deal()
		if e != api.OK {
			t.Fatal(e)
		}
		kept := slices.Clone(first.Bits)
		scribble(first.Bits, 0x55)
		if d, e := side.m.Deal(); e != api.OK || !slices.Equal(d.Bits, kept) {
			t.Errorf("P1508: Deal shares its bits: %x, %v, want %x", d.Bits, e, kept)
		}
	}
}

// TestMachinesShareNothing: P1508: two machines of one self, one a step ahead of the other.
func TestMachinesShareNothing(t *testing.T) {
	a, b := withBlocks(bring(0, gens(20, 10, 8, 0)), 1200, 0, 600), withBlocks(bring(1, gens(10, 0, 8, 0)), 1200, 3, 1100)
	want := greetings(t, a, b, inTurn())
	wanted, _ := want[0].m.Deal()
	m, _ := begin(t, a)
	n, _ := begin(t, a)
	for _, p := range want[1].sent {
		ahead, done, e := m.Receive(p)
		wantReceive(t, "P1508: another machine", n, p, ahead, done, e)
	}
	o, _ := begin(t, a)
	wantRefusal(t, "P1503: another command", o, goodPacket(api.CmdState), api.ErrProto)
	for _, x := range []*Machine{m, n} {
		if d, e := x.Deal(); e != api.OK || !slices.Equal(d.Bits, wanted.Bits) {
			t.Errorf("P1508: two machines: %x, %v, want %x", d.Bits, e, wanted.Bits)
		}
	}
}
