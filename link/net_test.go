package link

import (
	"bytes"
	"testing"

	"replica/api"
)

// side: one of two joined links, with what the onlooker knows of it.
type side struct {
	*Link
	mine     uint32
	accepted map[uint32][][]byte // by its session
	laid     [][]byte            // every frame that it has ever laid, as far as the net keeps them
	given    [][]byte            // in its session, as long as its peer is the same
	peer     uint32
	all      int // how many payloads it has given
}

func newSide(t *testing.T, window, backlog, resend, dead int) *side {
	t.Helper()
	l, e := New(window, backlog, resend, dead)
	if e != api.OK {
		t.Fatalf("New(%d, %d, %d, %d): %v", window, backlog, resend, dead, e)
	}
	return &side{Link: l, accepted: map[uint32][][]byte{}}
}

func (s *side) begin(t *testing.T, mine, first uint32) {
	t.Helper()
	if e := s.Open(mine, first); e != api.OK {
		t.Fatalf("Open(%d): %v", mine, e)
	}
	s.mine, s.peer, s.given = mine, 0, nil
}

func (s *side) send(payload []byte) api.Errno {
	e := s.Send(payload)
	if e == api.OK {
		s.accepted[s.mine] = append(s.accepted[s.mine], payload)
	}
	return e
}

// collect lets the net have what was laid, and tells it.
func (s *side) collect() [][]byte {
	out := s.Out()
	s.laid = append(s.laid, out...)
	return out
}

// hand hands a frame over, and holds what is given against what the other side was handed.
func (s *side) hand(t *testing.T, other *side, frame []byte) api.Errno {
	t.Helper()
	got, e := s.Take(frame)
	if len(got) > 0 {
		s.all += len(got)
		if s.Peer() != s.peer {
			s.peer, s.given = s.Peer(), nil
		}
		s.given = append(s.given, got...)
		sent := other.accepted[s.peer]
		if len(s.given) > len(sent) || !sameLists(s.given, sent[:len(s.given)]) {
			t.Fatalf("P814: session %d has given %q of session %d, which was handed %q", s.mine, s.given, s.peer, sent)
		}
	}
	return e
}

// story: how a net and the clients of two links behave.
type story struct {
	sides    [2]*side
	last     [2]uint32 // the greatest session of each
	firsts   []uint32  // the first numbers that sessions are given
	loss     int       // of a hundred frames
	weights  [6]int    // of what happens in a step
	together int       // their sum
}

// What happens in a step of a story.
const (
	sending = iota
	ticking
	closing
	babbling // bytes that are no frame
	doubling // a frame of any time is handed over
	flowing  // all that was laid since is handed over, but what is lost
)

func newStory(d *dice, sides [2]*side, weights [6]int) *story {
	s := &story{sides: sides, firsts: []uint32{0, 1<<32 - 1, 1<<32 - 5, 1<<31 - 2, 77}, loss: pick(d, 0, 10, 50, 90), weights: weights}
	if d.below(2) == 0 {
		s.firsts = s.firsts[:1]
	}
	for _, w := range weights {
		s.together += w
	}
	return s
}

func (s *story) drawn(d *dice) int {
	n := d.below(s.together)
	for what, w := range s.weights {
		if n < w {
			return what
		}
		n -= w
	}
	return flowing
}

// step plays one step of two links over a net that keeps all frames and hands them over as it likes.
func (s *story) step(t *testing.T, d *dice) {
	t.Helper()
	i := d.below(2)
	one, other := s.sides[i], s.sides[1-i]
	if one.State() == api.LinkClosed || one.State() == api.LinkDead {
		s.last[i] += uint32(1 + d.below(2))
		one.begin(t, s.last[i], pick(d, s.firsts...))
		return
	}
	switch s.drawn(d) {
	case sending:
		count := len(one.accepted[one.mine])
		one.send([]byte{byte(i), byte(one.mine), byte(count), byte(count >> 8)})
	case ticking:
		one.Tick()
	case closing:
		one.Close()
	case babbling:
		one.hand(t, other, []byte("RF are the first bytes of a frame"))
	case doubling:
		other.collect()
		if len(other.laid) > 0 {
			one.hand(t, other, pick(d, other.laid...))
		}
	case flowing:
		for _, f := range other.collect() {
			if d.below(100) >= s.loss {
				one.hand(t, other, bytes.Clone(f))
			}
		}
	}
}

// P814: whatever the net does, what is given is a first part of what the other side was handed.
func TestInOrderOnce(t *testing.T) {
	d := dice(14)
	given, sessions := 0, 0
	for range 4000 {
		var sides [2]*side
		for i := range sides {
			resend := 1 + d.below(3)
			sides[i] = newSide(t, pick(&d, 1, 2, 3, 8, 64), d.below(4), resend, resend+1+d.below(10))
		}
		s := newStory(&d, sides, [6]int{d.below(40), d.below(20), d.below(10), 1, 1 + d.below(80), d.below(40)})
		for range 50 + d.below(150) {
			s.step(t, &d)
		}
		given += sides[0].all + sides[1].all
		sessions += len(sides[0].accepted) + len(sides[1].accepted)
	}
	if given < 10000 || sessions < 5000 {
		t.Fatalf("only %d payloads were given, in %d sessions: this says little", given, sessions)
	}
}

// P814: a peer that was left while this side was opening is not listened to, though it named this very session.
func TestLeftPeer(t *testing.T) {
	a, b := newSide(t, 4, 4, 2, 5), newSide(t, 4, 4, 2, 5)
	b.begin(t, 7, 50)
	a.begin(t, 1, 10)
	a.hand(t, b, b.collect()[0])
	b.hand(t, a, a.collect()[0])
	a.hand(t, b, b.collect()[0])
	a.send([]byte("of the first session"))
	held := a.collect()
	a.Close()
	a.begin(t, 2, 10)
	a.send([]byte("of the second"))
	if e := b.hand(t, a, a.collect()[1]); e != api.OK || b.Peer() != 2 || b.State() != api.LinkOpening {
		t.Fatalf("P808: %v, peer %d, state %d", e, b.Peer(), b.State())
	}
	for _, f := range held {
		if e := b.hand(t, a, f); e != api.ErrOther {
			t.Fatalf("P809: a frame of the session that was left: %v", e)
		}
	}
	a.hand(t, b, b.collect()[0])
	for _, f := range a.collect() {
		b.hand(t, a, f)
	}
	if !b.whole(a) || len(b.given) != 1 {
		t.Fatalf("P814: %q was given", b.given)
	}
}

// met gives two links that are Open, each the other's peer, behind a time in which the net lost frames; false: it did not come to that.
func met(t *testing.T, d *dice) ([2]*side, bool) {
	t.Helper()
	resend := [2]int{1 + d.below(5), 1 + d.below(5)}
	var sides [2]*side
	for i := range sides {
		dead := max(resend[0], resend[1]) + 1 + d.below(3)
		sides[i] = newSide(t, pick(d, 1, 2, 3, 8, 64), pick(d, 0, 3, 40), resend[i], dead)
		sides[i].begin(t, uint32(3+i), pick[uint32](d, 0, 1<<32-2, 1<<31-1))
	}
	s := newStory(d, sides, [6]int{30, 10, 0, 1, 18, 40})
	s.last = [2]uint32{3, 4}
	for range 20 + d.below(200) {
		s.step(t, d)
	}
	a, b := sides[0], sides[1]
	joined := a.State() == api.LinkOpen && b.State() == api.LinkOpen && a.Peer() == b.mine && b.Peer() == a.mine
	return sides, joined
}

// hears hands to s a frame of its peer that it listens to; false: the net has none.
func (s *side) hears(t *testing.T, other *side) bool {
	t.Helper()
	for _, f := range other.laid {
		if e := s.hand(t, other, f); e == api.OK || e == api.ErrOld {
			return s.State() == api.LinkOpen
		}
	}
	return false
}

// P815: in calm neither dies, and all arrives in as many rounds as the greater resend.
func TestCalm(t *testing.T) {
	d := dice(15)
	tried := 0
	for range 2000 {
		sides, joined := met(t, &d)
		if !joined {
			continue
		}
		a, b := sides[0], sides[1]
		if !a.hears(t, b) || !b.hears(t, a) {
			continue
		}
		tried++
		rounds := max(a.resend, b.resend)
		for round := range rounds + 20 {
			calmRound(t, a, b)
			if a.State() != api.LinkOpen || b.State() != api.LinkOpen {
				t.Fatalf("P815: in round %d of calm the states are %d, %d", round, a.State(), b.State())
			}
			if round+1 < rounds {
				continue
			}
			if !a.whole(b) || !b.whole(a) {
				t.Fatalf("P815: behind %d rounds of calm %d of %d and %d of %d have been given", round+1, len(a.given), len(b.accepted[b.mine]), len(b.given), len(a.accepted[a.mine]))
			}
		}
	}
	if tried < 500 {
		t.Fatalf("only %d pairs came to calm: this says little", tried)
	}
}

func calmRound(t *testing.T, a, b *side) {
	t.Helper()
	a.Tick()
	b.Tick()
	for {
		of, and := a.collect(), b.collect()
		if len(of)+len(and) == 0 {
			return
		}
		for _, f := range of {
			b.hand(t, a, f)
		}
		for _, f := range and {
			a.hand(t, b, f)
		}
	}
}

// whole tells whether s has given all that the other side was handed in its session.
func (s *side) whole(other *side) bool {
	return len(s.given) == len(other.accepted[other.mine])
}
