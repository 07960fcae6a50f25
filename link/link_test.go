package link

import (
	"bytes"
	"math"
	"testing"

	"replica/api"
	"replica/wire"
)

// encoded is a frame as bytes.
func encoded(t *testing.T, kind int, from, to, seq, ack uint32, payload string) []byte {
	t.Helper()
	b, e := wire.EncodeFrame(api.Frame{Kind: kind, From: from, To: to, Seq: seq, Ack: ack, Payload: []byte(payload)})
	if e != api.OK {
		t.Fatalf("EncodeFrame: %v", e)
	}
	return b
}

// watch: a link whose answers are held against what a test writes down.
type watch struct {
	*Link
	t *testing.T
}

func watched(t *testing.T, window, backlog, resend, dead int) watch {
	t.Helper()
	l, e := New(window, backlog, resend, dead)
	if e != api.OK || l == nil {
		t.Fatalf("New(%d, %d, %d, %d): %v", window, backlog, resend, dead, e)
	}
	return watch{l, t}
}

func (w watch) is(what string, state int, peer uint32, flying, waiting int) {
	w.t.Helper()
	f, n := w.Flight()
	if w.State() != state || w.Peer() != peer || f != flying || n != waiting {
		w.t.Fatalf("%s: state %d, peer %d, flight %d, %d, want %d, %d, %d, %d", what, w.State(), w.Peer(), f, n, state, peer, flying, waiting)
	}
}

func (w watch) opens(mine, first uint32, want api.Errno) {
	w.t.Helper()
	if e := w.Open(mine, first); e != want {
		w.t.Fatalf("Open(%d, %d): %v, want %v", mine, first, e, want)
	}
}

func (w watch) sends(payload string, want api.Errno) {
	w.t.Helper()
	if e := w.Send([]byte(payload)); e != want {
		w.t.Fatalf("Send of %d bytes: %v, want %v", len(payload), e, want)
	}
}

func (w watch) takes(what string, frame []byte, want api.Errno, payloads ...string) {
	w.t.Helper()
	got, e := w.Take(frame)
	if e != want || len(got) != len(payloads) {
		w.t.Fatalf("%s: %q, %v, want %q, %v", what, got, e, payloads, want)
	}
	for i := range got {
		if string(got[i]) != payloads[i] {
			w.t.Fatalf("%s: %q, want %q", what, got, payloads)
		}
	}
}

func (w watch) ticks(n int) {
	for range n {
		w.Tick()
	}
}

// lays: Out gives just these frames.
func (w watch) lays(what string, want ...[]byte) {
	w.t.Helper()
	got := w.Out()
	if !sameLists(got, want) {
		w.t.Fatalf("%s: laid\n%x, want\n%x", what, got, want)
	}
	if len(w.Out()) != 0 {
		w.t.Fatalf("%s: the second Out is not empty", what)
	}
}

// opened is a link that is Open: mine 1 with the first number 10, the peer 7 with the first number 50.
func opened(t *testing.T, window, backlog, resend, dead int) watch {
	t.Helper()
	w := watched(t, window, backlog, resend, dead)
	w.opens(1, 10, api.OK)
	w.takes("opened", encoded(t, api.FrameOpen, 7, 1, 50, 0, ""), api.OK)
	w.is("opened", api.LinkOpen, 7, 0, 0)
	w.Out()
	return w
}

// P802.
func TestNew(t *testing.T) {
	good := [][4]int{{1, 0, 1, 2}, {64, 1024, 999, 1000}, {1, 1024, 1, 1000}, {64, 0, 1, 2}}
	for _, c := range good {
		watched(t, c[0], c[1], c[2], c[3]).is("P802", api.LinkClosed, 0, 0, 0)
	}
	wrong := [4][]int{
		{math.MinInt, -1, 0, 65, 1<<32 + 1, math.MaxInt},
		{math.MinInt, -1, 1025, 1 << 32, math.MaxInt},
		{math.MinInt, -1, 0, 2, 3, 1000, 1001, 1<<32 + 1, math.MaxInt},
		{math.MinInt, -1, 0, 1, 1001, 1<<32 + 2, math.MaxInt},
	}
	for i, numbers := range wrong {
		for _, n := range numbers {
			c := [4]int{1, 0, 1, 2}
			c[i] = n
			if l, e := New(c[0], c[1], c[2], c[3]); l != nil || e != api.ErrArg {
				t.Errorf("P802: New(%v): %v, %v", c, l, e)
			}
		}
	}
	for _, c := range [][4]int{{1, 0, 1000, 1000}, {1, 0, 1000, 1001}, {1, 0, 999, 999}, {1, 0, math.MaxInt, math.MinInt}} {
		if l, e := New(c[0], c[1], c[2], c[3]); l != nil || e != api.ErrArg {
			t.Errorf("P802: New(%v): %v, %v", c, l, e)
		}
	}
}

// P803.
func TestOpen(t *testing.T) {
	w := watched(t, 1, 0, 1, 2)
	w.opens(0, 5, api.ErrArg)
	w.is("P803: refused", api.LinkClosed, 0, 0, 0)
	w.lays("P803: refused")
	w.opens(4, 1<<32-1, api.OK)
	w.is("P803", api.LinkOpening, 0, 0, 0)
	w.lays("P803", encoded(t, api.FrameOpen, 4, 0, 1<<32-1, 0, ""))
	w.opens(0, 5, api.ErrState)
	w.opens(9, 5, api.ErrState)
	w.sends("forgotten", api.OK)
	w.Close()
	for _, mine := range []uint32{0, 1, 3, 4} {
		w.opens(mine, 5, api.ErrArg)
	}
	w.opens(5, 5, api.OK)
	w.is("P803: nothing waits", api.LinkOpening, 0, 0, 0)
	w.Close()
	w.opens(1<<32-1, 5, api.OK)
	w.Close()
	w.opens(1<<32-1, 5, api.ErrArg)
	w.opens(0, 5, api.ErrArg)

	o := opened(t, 1, 0, 1, 2)
	o.opens(9, 5, api.ErrState)
	o.ticks(2)
	o.is("P812", api.LinkDead, 0, 0, 0)
	o.opens(1, 5, api.ErrArg)
	o.opens(9, 5, api.OK)
}

// P803: a new session begins with nothing of the old one, but what its end left on the list.
func TestOpenForgets(t *testing.T) {
	w := opened(t, 2, 3, 2, 4)
	w.sends("a", api.OK)
	w.sends("b", api.OK)
	w.sends("c", api.OK)
	w.takes("early", encoded(t, api.FrameData, 7, 1, 51, 10, "early"), api.OK)
	w.Close()
	w.opens(2, 30, api.OK)
	w.lays("P804", encoded(t, api.FrameData, 1, 7, 10, 50, "a"), encoded(t, api.FrameData, 1, 7, 11, 50, "b"),
		encoded(t, api.FrameAck, 1, 7, 12, 50, ""), encoded(t, api.FrameClose, 1, 7, 12, 50, ""), encoded(t, api.FrameOpen, 2, 0, 30, 0, ""))
	w.takes("P808", encoded(t, api.FrameOpen, 7, 2, 50, 0, ""), api.OK)
	w.is("P803", api.LinkOpen, 7, 0, 0)
	w.takes("P803: nothing is early", encoded(t, api.FrameData, 7, 2, 50, 30, "first"), api.OK, "first")
	w.lays("P803", encoded(t, api.FrameAck, 2, 7, 30, 50, ""), encoded(t, api.FrameAck, 2, 7, 30, 51, ""))
}

// P804.
func TestClose(t *testing.T) {
	w := watched(t, 2, 3, 2, 5)
	w.Close()
	w.is("P804: closed", api.LinkClosed, 0, 0, 0)
	w.opens(1, 10, api.OK)
	w.Out()
	w.sends("x", api.OK)
	w.Close()
	w.is("P804: opening, no peer", api.LinkClosed, 0, 0, 0)
	w.lays("P804: no peer is told")

	w.opens(2, 10, api.OK)
	w.takes("P808", encoded(t, api.FrameOpen, 7, 0, 50, 0, ""), api.OK)
	w.Out()
	w.Close()
	w.is("P804: opening, a peer", api.LinkClosed, 0, 0, 0)
	w.lays("P804", encoded(t, api.FrameClose, 2, 7, 10, 50, ""))
	w.Close()
	w.lays("P804: once")

	o := opened(t, 2, 3, 2, 5)
	o.sends("x", api.OK)
	o.Out()
	o.Close()
	o.is("P804: open", api.LinkClosed, 0, 0, 0)
	o.lays("P804", encoded(t, api.FrameClose, 1, 7, 11, 50, ""))

	d := opened(t, 2, 3, 2, 5)
	d.ticks(5)
	d.Out()
	d.Close()
	d.is("P804: dead", api.LinkDead, 0, 0, 0)
	d.lays("P804: dead")
}

// P806.
func TestSend(t *testing.T) {
	long := string(make([]byte, 2049))
	w := watched(t, 2, 3, 2, 5)
	for _, payload := range []string{"", "x", long} {
		w.sends(payload, api.ErrState)
	}
	w.opens(1, 10, api.OK)
	w.Out()
	for range 5 {
		w.sends("", api.ErrSize)
		w.sends(long, api.ErrLong)
		w.sends(long[:2048], api.OK)
	}
	w.is("P806: none flies while opening", api.LinkOpening, 0, 0, 5)
	w.lays("P806")
	w.sends("", api.ErrSize)
	w.sends(long, api.ErrLong)
	w.sends("x", api.ErrFull)
	w.takes("P807: the link fills", encoded(t, api.FrameOpen, 7, 1, 50, 0, ""), api.OK)
	w.is("P807", api.LinkOpen, 7, 2, 3)
	w.sends("x", api.ErrFull)
	w.takes("P810", encoded(t, api.FrameAck, 7, 1, 50, 11, ""), api.OK)
	w.is("P810", api.LinkOpen, 7, 2, 2)
	w.sends("x", api.OK)
	w.sends("x", api.ErrFull)
	w.ticks(5)
	for _, payload := range []string{"", "x", long} {
		w.sends(payload, api.ErrState)
	}

	one := opened(t, 1, 0, 1, 2)
	one.sends("x", api.OK)
	one.sends("y", api.ErrFull)
	one.takes("P810", encoded(t, api.FrameAck, 7, 1, 50, 11, ""), api.OK)
	one.sends("y", api.OK)

	much := opened(t, 64, 1024, 1, 2)
	for range 64 + 1024 {
		much.sends("x", api.OK)
	}
	much.is("P806", api.LinkOpen, 7, 64, 1024)
	much.sends("x", api.ErrFull)
}

// P807: what is no frame, and any frame where there is no session.
func TestTakeRefuses(t *testing.T) {
	good := encoded(t, api.FrameData, 7, 1, 50, 10, "x")
	cases := map[string]struct {
		frame []byte
		want  api.Errno
	}{
		"nothing":   {nil, api.ErrShort},
		"mark":      {append([]byte("XX"), good[2:]...), api.ErrMark},
		"short":     {good[:26], api.ErrShort},
		"extra":     {append(bytes.Clone(good), 0), api.ErrExtra},
		"sum":       {append(bytes.Clone(good[:26]), 'y'), api.ErrSum},
		"kind":      {append([]byte{'R', 'F', 9}, good[3:]...), api.ErrCmd},
		"a payload": {append([]byte{'R', 'F', api.FrameAck}, good[3:]...), api.ErrBody},
	}
	for name, c := range cases {
		closed, opening, open, dead := watched(t, 2, 3, 2, 5), watched(t, 2, 3, 2, 5), opened(t, 2, 3, 2, 5), opened(t, 2, 3, 2, 5)
		opening.opens(1, 10, api.OK)
		opening.Out()
		dead.ticks(5)
		dead.Out()
		for _, w := range []watch{closed, opening, open, dead} {
			state, peer := w.State(), w.Peer()
			w.takes("P807: "+name, c.frame, c.want)
			w.is("P807: "+name, state, peer, 0, 0)
			w.lays("P807: " + name)
		}
	}
	dead := opened(t, 2, 3, 2, 5)
	dead.ticks(5)
	dead.Out()
	for _, w := range []watch{watched(t, 2, 3, 2, 5), dead} {
		for _, frame := range [][]byte{good, encoded(t, api.FrameOpen, 9, 1, 50, 0, ""), encoded(t, api.FrameAck, 7, 1, 50, 10, ""), encoded(t, api.FrameClose, 7, 1, 50, 10, "")} {
			w.takes("P807", frame, api.ErrState)
			w.lays("P807")
		}
		w.opens(2, 0, api.OK)
		w.takes("P807: the session 9 was not heard of", encoded(t, api.FrameOpen, 8, 0, 50, 0, ""), api.OK)
	}
}

// P808: Opening.
func TestMeetOpening(t *testing.T) {
	w := watched(t, 2, 3, 2, 5)
	w.opens(3, 10, api.OK)
	w.Out()
	w.takes("P808: from 0", encoded(t, api.FrameOpen, 0, 3, 50, 0, ""), api.ErrOther)
	w.is("P808", api.LinkOpening, 0, 0, 0)
	w.takes("P808: the numbers that an Open has no use for", encoded(t, api.FrameOpen, 7, 99, 50, 1234, ""), api.OK)
	w.is("P808", api.LinkOpening, 7, 0, 0)
	w.lays("P808", encoded(t, api.FrameOpen, 3, 7, 10, 0, ""))
	w.takes("P808: once more", encoded(t, api.FrameOpen, 7, 2, 50, 0, ""), api.OK)
	w.lays("P808", encoded(t, api.FrameOpen, 3, 7, 10, 0, ""))
	w.takes("P808: an older one", encoded(t, api.FrameOpen, 6, 3, 40, 0, ""), api.ErrOther)
	w.is("P808", api.LinkOpening, 7, 0, 0)
	w.lays("P808: an older one")
	w.takes("P808: a newer one", encoded(t, api.FrameOpen, 8, 0, 60, 0, ""), api.OK)
	w.is("P808", api.LinkOpening, 8, 0, 0)
	w.lays("P808", encoded(t, api.FrameOpen, 3, 8, 10, 0, ""))
	w.takes("P808: the one that was left", encoded(t, api.FrameOpen, 7, 3, 50, 0, ""), api.ErrOther)
	w.takes("P809: the one that was left", encoded(t, api.FrameAck, 7, 3, 50, 10, ""), api.ErrOther)
	w.takes("P808: to mine", encoded(t, api.FrameOpen, 8, 3, 60, 0, ""), api.OK)
	w.is("P808", api.LinkOpen, 8, 0, 0)
	w.lays("P808", encoded(t, api.FrameAck, 3, 8, 10, 60, ""))
	w.takes("P808: expected", encoded(t, api.FrameData, 8, 3, 60, 10, "x"), api.OK, "x")
}

// P808: Open.
func TestMeetOpen(t *testing.T) {
	w := opened(t, 2, 3, 2, 5)
	w.takes("P808: from 0", encoded(t, api.FrameOpen, 0, 1, 50, 0, ""), api.ErrOther)
	w.takes("P808: an older one", encoded(t, api.FrameOpen, 6, 1, 50, 0, ""), api.ErrOther)
	w.lays("P808")
	w.takes("P810", encoded(t, api.FrameData, 7, 1, 50, 10, "x"), api.OK, "x")
	w.Out()
	for _, to := range []uint32{0, 1, 2} {
		w.takes("P808: the peer", encoded(t, api.FrameOpen, 7, to, 50, 0, ""), api.ErrOld)
		w.is("P808", api.LinkOpen, 7, 0, 0)
		w.lays("P808", encoded(t, api.FrameAck, 1, 7, 10, 51, ""))
	}
	w.sends("y", api.OK)
	w.Out()
	w.takes("P808: began anew", encoded(t, api.FrameOpen, 1<<32-1, 0, 0, 0, ""), api.OK)
	w.is("P808", api.LinkDead, 0, 0, 0)
	w.lays("P808")
	w.opens(2, 10, api.OK)
	w.Out()
	w.takes("P808: below the one that killed", encoded(t, api.FrameOpen, 1<<32-2, 2, 0, 0, ""), api.ErrOther)
	w.takes("P808: the one that killed", encoded(t, api.FrameOpen, 1<<32-1, 2, 0, 0, ""), api.OK)
	w.is("P808", api.LinkOpen, 1<<32-1, 0, 0)
}

// P809.
func TestOtherSessions(t *testing.T) {
	for _, kind := range []int{api.FrameData, api.FrameAck, api.FrameClose} {
		payload := ""
		if kind == api.FrameData {
			payload = "x"
		}
		opening := watched(t, 2, 3, 2, 5)
		opening.opens(1, 10, api.OK)
		opening.Out()
		for _, from := range []uint32{0, 7} {
			opening.takes("P809: no peer", encoded(t, kind, from, 1, 50, 10, payload), api.ErrOther)
		}
		opening.is("P809", api.LinkOpening, 0, 0, 0)
		opening.takes("P808", encoded(t, api.FrameOpen, 7, 0, 50, 0, ""), api.OK)
		opening.Out()
		for _, w := range []watch{opening, opened(t, 2, 3, 2, 5)} {
			state := w.State()
			for _, other := range [][2]uint32{{6, 1}, {8, 1}, {0, 1}, {7, 0}, {7, 2}, {1, 7}} {
				w.takes("P809: another", encoded(t, kind, other[0], other[1], 50, 10, payload), api.ErrOther)
				w.is("P809", state, 7, 0, 0)
				w.lays("P809")
			}
		}
	}
}

// P808, P809: a peer of an earlier session is known again only when it is told again (example 6).
func TestEarlierPeer(t *testing.T) {
	w := watched(t, 2, 3, 2, 5)
	w.opens(2, 10, api.OK)
	w.takes("P808", encoded(t, api.FrameOpen, 9, 2, 50, 0, ""), api.OK)
	w.Close()
	w.opens(3, 20, api.OK)
	w.Out()
	w.takes("P808: an older one", encoded(t, api.FrameOpen, 8, 0, 0, 0, ""), api.ErrOther)
	w.takes("P809: not known yet", encoded(t, api.FrameData, 9, 3, 0, 20, "x"), api.ErrOther)
	w.is("P805", api.LinkOpening, 0, 0, 0)
	w.takes("P808: to the earlier session", encoded(t, api.FrameOpen, 9, 2, 0, 0, ""), api.OK)
	w.is("P808", api.LinkOpening, 9, 0, 0)
	w.lays("P808", encoded(t, api.FrameOpen, 3, 9, 20, 0, ""))
}

// P809: the first frame that fits opens, whatever it is answered with; nothing is laid for that, but what waits flies.
func TestFirstFrameOpens(t *testing.T) {
	cases := map[string]struct {
		frame []byte
		want  api.Errno
		given []string
		laid  [][]byte
	}{
		"ack":     {encoded(t, api.FrameAck, 7, 1, 50, 10, ""), api.OK, nil, nil},
		"old ack": {encoded(t, api.FrameAck, 7, 1, 50, 9, ""), api.OK, nil, nil},
		"far ack": {encoded(t, api.FrameAck, 7, 1, 50, 11, ""), api.ErrFar, nil, nil},
		"far":     {encoded(t, api.FrameData, 7, 1, 52, 10, "x"), api.ErrFar, nil, nil},
		"old":     {encoded(t, api.FrameData, 7, 1, 49, 10, "x"), api.ErrOld, nil, [][]byte{encoded(t, api.FrameAck, 1, 7, 10, 50, "")}},
		"data":    {encoded(t, api.FrameData, 7, 1, 50, 10, "x"), api.OK, []string{"x"}, [][]byte{encoded(t, api.FrameAck, 1, 7, 10, 51, "")}},
	}
	for name, c := range cases {
		w := watched(t, 2, 3, 2, 5)
		w.opens(1, 10, api.OK)
		w.sends("q", api.OK)
		w.takes("P808", encoded(t, api.FrameOpen, 7, 0, 50, 0, ""), api.OK)
		w.Out()
		w.takes("P809: "+name, c.frame, c.want, c.given...)
		w.is("P809: "+name, api.LinkOpen, 7, 1, 0)
		expected := uint32(50 + len(c.given))
		w.lays("P809: "+name, append(c.laid, encoded(t, api.FrameData, 1, 7, 10, expected, "q"))...)
		w.ticks(1)
		w.lays("P812: the ticks begin anew: " + name)
		w.ticks(3)
		w.is("P812: "+name, api.LinkOpen, 7, 1, 0)
		w.ticks(1)
		w.is("P812: "+name, api.LinkDead, 0, 0, 0)
	}
	w := watched(t, 2, 3, 2, 5)
	w.opens(1, 10, api.OK)
	w.takes("P808", encoded(t, api.FrameOpen, 7, 0, 50, 0, ""), api.OK)
	w.Out()
	w.takes("P811: a FrameClose, whatever its numbers", encoded(t, api.FrameClose, 7, 1, 1234, 5678, ""), api.OK)
	w.is("P811", api.LinkClosed, 0, 0, 0)
	w.lays("P811")
}

// P810: what a frame's Ack acknowledges, with three payloads in flight from each first number.
func TestAcknowledge(t *testing.T) {
	for _, first := range []uint32{0, 5, 1<<31 - 2, 1 << 31, 1<<32 - 2, 1<<32 - 1} {
		for _, d := range []uint32{0, 1, 2, 3, 4, 5, 1<<31 - 1, 1 << 31, 1<<31 + 1, 1<<32 - 2, 1<<32 - 1} {
			for _, kind := range []int{api.FrameAck, api.FrameData} {
				w := watched(t, 3, 1, 2, 5)
				w.opens(1, first, api.OK)
				w.takes("opened", encoded(t, api.FrameOpen, 7, 1, 50, 0, ""), api.OK)
				for _, payload := range []string{"a", "b", "c", "d"} {
					w.sends(payload, api.OK)
				}
				w.Out()
				payload, given := "", []string{}
				if kind == api.FrameData {
					payload, given = "x", []string{"x"}
				}
				frame := encoded(t, kind, 7, 1, 50, first+d, payload)
				switch {
				case d <= 3:
					w.takes("P810", frame, api.OK, given...)
					w.is("P810", api.LinkOpen, 7, min(3, 4-int(d)), max(0, 1-int(d)))
				case d < 1<<31:
					w.takes("P810", frame, api.ErrFar)
					w.is("P810", api.LinkOpen, 7, 3, 1)
					w.lays("P810: nothing else is done with it")
				default:
					w.takes("P810", frame, api.OK, given...)
					w.is("P810", api.LinkOpen, 7, 3, 1)
				}
			}
		}
	}
}

// P810: a FrameData that is refused by its Seq has acknowledged all the same, and what waits flies.
func TestRefusedAcknowledges(t *testing.T) {
	for seq, want := range map[uint32]api.Errno{52: api.ErrFar, 49: api.ErrOld} {
		w := opened(t, 2, 3, 2, 5)
		w.sends("a", api.OK)
		w.sends("b", api.OK)
		w.sends("c", api.OK)
		w.Out()
		w.takes("P810", encoded(t, api.FrameData, 7, 1, seq, 11, "x"), want)
		w.is("P810", api.LinkOpen, 7, 2, 0)
		c := encoded(t, api.FrameData, 1, 7, 12, 50, "c")
		if want == api.ErrOld {
			w.lays("P810", encoded(t, api.FrameAck, 1, 7, 12, 50, ""), c)
		} else {
			w.lays("P810", c)
		}
	}
}

// P810: what the number of a payload says, at each window and each first number.
func TestReceive(t *testing.T) {
	for _, window := range []int{1, 2, 3, 64} {
		for _, first := range []uint32{0, 1 << 31, 1<<32 - 1} {
			far := uint32(window)
			for d, want := range map[uint32]api.Errno{0: api.OK, far - 1: api.OK, far: api.ErrFar, far + 1: api.ErrFar, 1<<31 - 1: api.ErrFar, 1 << 31: api.ErrOld, 1<<32 - 1: api.ErrOld} {
				w := watched(t, window, 0, 2, 5)
				w.opens(1, 10, api.OK)
				w.takes("opened", encoded(t, api.FrameOpen, 7, 1, first, 0, ""), api.OK)
				w.Out()
				frame := encoded(t, api.FrameData, 7, 1, first+d, 10, "x")
				switch {
				case want == api.ErrFar:
					w.takes("P810", frame, want)
					w.lays("P810: far")
				case d == 0:
					w.takes("P810", frame, want, "x")
					w.lays("P810: expected", encoded(t, api.FrameAck, 1, 7, 10, first+1, ""))
				default:
					w.takes("P810", frame, want)
					w.lays("P810: early or old", encoded(t, api.FrameAck, 1, 7, 10, first, ""))
				}
			}
		}
	}
}

// P810: the first payload of a number stays, and a row is given as soon as its beginning is there.
func TestEarly(t *testing.T) {
	w := opened(t, 4, 0, 2, 5)
	w.takes("P810", encoded(t, api.FrameData, 7, 1, 53, 10, "d"), api.OK)
	w.takes("P810", encoded(t, api.FrameData, 7, 1, 51, 10, "b"), api.OK)
	w.takes("P810: early already", encoded(t, api.FrameData, 7, 1, 51, 10, "B"), api.OK)
	w.takes("P810", encoded(t, api.FrameData, 7, 1, 50, 10, "a"), api.OK, "a", "b")
	w.takes("P810: early already", encoded(t, api.FrameData, 7, 1, 53, 10, "D"), api.OK)
	w.takes("P810: the window has moved on", encoded(t, api.FrameData, 7, 1, 55, 10, "f"), api.OK)
	w.takes("P810", encoded(t, api.FrameData, 7, 1, 56, 10, "g"), api.ErrFar)
	w.takes("P810", encoded(t, api.FrameData, 7, 1, 52, 10, "c"), api.OK, "c", "d")
	w.takes("P810", encoded(t, api.FrameData, 7, 1, 53, 10, "D"), api.ErrOld)
	w.takes("P810", encoded(t, api.FrameData, 7, 1, 54, 10, "e"), api.OK, "e", "f")
	ack := func(n uint32) []byte { return encoded(t, api.FrameAck, 1, 7, 10, n, "") }
	w.lays("P810", ack(50), ack(50), ack(50), ack(52), ack(52), ack(52), ack(54), ack(54), ack(56))
}

// P812: Opening.
func TestTickOpening(t *testing.T) {
	w := watched(t, 2, 3, 3, 4)
	w.ticks(3)
	w.lays("P812: closed")
	w.opens(1, 10, api.OK)
	w.Out()
	w.ticks(2)
	w.lays("P812")
	w.takes("P808", encoded(t, api.FrameOpen, 7, 0, 50, 0, ""), api.OK)
	w.Out()
	w.sends("x", api.OK)
	w.ticks(1)
	w.lays("P812: the peer is known now", encoded(t, api.FrameOpen, 1, 7, 10, 0, ""))
	w.ticks(2)
	w.lays("P812")
	for range 300 {
		w.ticks(1)
		w.lays("P812", encoded(t, api.FrameOpen, 1, 7, 10, 0, ""))
		w.ticks(2)
		w.lays("P812")
	}
	w.is("P812: what is opening does not die", api.LinkOpening, 7, 0, 1)
	w.takes("P809", encoded(t, api.FrameAck, 7, 1, 50, 10, ""), api.OK)
	w.Out()
	w.ticks(2)
	w.lays("P812: the ticks begin anew")
	w.ticks(1)
	w.lays("P812", encoded(t, api.FrameData, 1, 7, 10, 50, "x"))
}

// P812: Open, what is laid again and when, whatever comes between.
func TestTickOpen(t *testing.T) {
	w := opened(t, 2, 3, 3, 4)
	ack := encoded(t, api.FrameAck, 7, 1, 50, 10, "")
	w.ticks(2)
	w.takes("P810", ack, api.OK)
	w.sends("a", api.OK)
	w.sends("b", api.OK)
	w.sends("c", api.OK)
	w.Out()
	w.ticks(1)
	w.lays("P812", encoded(t, api.FrameData, 1, 7, 10, 50, "a"), encoded(t, api.FrameData, 1, 7, 11, 50, "b"))
	w.takes("P810", encoded(t, api.FrameData, 7, 1, 50, 11, "x"), api.OK, "x")
	w.Out()
	w.ticks(3)
	w.lays("P812: with what is expected now", encoded(t, api.FrameData, 1, 7, 11, 51, "b"), encoded(t, api.FrameData, 1, 7, 12, 51, "c"))
	w.takes("P810", encoded(t, api.FrameAck, 7, 1, 51, 13, ""), api.OK)
	w.ticks(2)
	w.lays("P812")
	w.ticks(1)
	w.lays("P812: none in flight", encoded(t, api.FrameAck, 1, 7, 13, 51, ""))
	w.ticks(1)
	w.is("P812", api.LinkDead, 0, 0, 0)
	w.ticks(20)
	w.lays("P812: dead")
}

// P812: what is heard, and what is not.
func TestDead(t *testing.T) {
	heard := map[string]bool{"ack": true, "old ack": true, "data": true, "early": true, "old": true, "open": true, "far": false, "far ack": false, "other": false, "old open": false, "bytes": false}
	frames := map[string][]byte{
		"ack":      encoded(t, api.FrameAck, 7, 1, 50, 10, ""),
		"old ack":  encoded(t, api.FrameAck, 7, 1, 50, 9, ""),
		"data":     encoded(t, api.FrameData, 7, 1, 50, 10, "x"),
		"early":    encoded(t, api.FrameData, 7, 1, 51, 10, "x"),
		"old":      encoded(t, api.FrameData, 7, 1, 49, 10, "x"),
		"open":     encoded(t, api.FrameOpen, 7, 0, 50, 0, ""),
		"far":      encoded(t, api.FrameData, 7, 1, 52, 10, "x"),
		"far ack":  encoded(t, api.FrameAck, 7, 1, 50, 12, ""),
		"other":    encoded(t, api.FrameAck, 6, 1, 50, 10, ""),
		"old open": encoded(t, api.FrameOpen, 6, 0, 50, 0, ""),
		"bytes":    []byte("no frame"),
	}
	for name, frame := range frames {
		for at := range 5 {
			w := opened(t, 2, 3, 2, 5)
			w.sends("x", api.OK)
			w.ticks(at)
			w.Take(frame)
			left := 5
			if !heard[name] {
				left -= at
			}
			w.ticks(left - 1)
			if w.State() != api.LinkOpen {
				t.Fatalf("P812: %s behind %d ticks: state %d one tick early", name, at, w.State())
			}
			w.Out()
			w.ticks(1)
			w.is("P812: "+name, api.LinkDead, 0, 0, 0)
			w.lays("P812: nothing else happens")
		}
	}
}

// P812: the tick that is both the resend-th and the dead-th lays nothing.
func TestDeadLaysNothing(t *testing.T) {
	w := opened(t, 2, 3, 2, 4)
	w.sends("x", api.OK)
	w.Out()
	w.ticks(3)
	w.lays("P812", encoded(t, api.FrameData, 1, 7, 10, 50, "x"))
	w.ticks(1)
	w.is("P812", api.LinkDead, 0, 0, 0)
	w.lays("P812")
}

// P812: the greatest times.
func TestLongTimes(t *testing.T) {
	w := opened(t, 1, 0, 999, 1000)
	w.ticks(998)
	w.lays("P812")
	w.ticks(1)
	w.lays("P812", encoded(t, api.FrameAck, 1, 7, 10, 50, ""))
	w.is("P812", api.LinkOpen, 7, 0, 0)
	w.ticks(1)
	w.is("P812", api.LinkDead, 0, 0, 0)
}

// P813: what was laid stays in the list whatever the state becomes, and says what held when it was laid.
func TestOut(t *testing.T) {
	w := opened(t, 2, 3, 1, 2)
	w.sends("a", api.OK)
	w.takes("P810", encoded(t, api.FrameData, 7, 1, 50, 10, "x"), api.OK, "x")
	w.ticks(1)
	w.takes("P808", encoded(t, api.FrameOpen, 8, 0, 0, 0, ""), api.OK)
	w.is("P808", api.LinkDead, 0, 0, 0)
	w.lays("P813", encoded(t, api.FrameData, 1, 7, 10, 50, "a"), encoded(t, api.FrameAck, 1, 7, 11, 51, ""), encoded(t, api.FrameData, 1, 7, 10, 51, "a"))
}

// P801: neither what is handed in nor what is handed out is kept.
func TestSharesNothing(t *testing.T) {
	w := opened(t, 2, 3, 1, 5)
	big := bytes.Repeat([]byte("p"), 100)
	payload := big[10:20:50]
	if e := w.Send(payload); e != api.OK {
		t.Fatalf("Send: %v", e)
	}
	spoil(big)
	want := encoded(t, api.FrameData, 1, 7, 10, 50, "pppppppppp")
	for range 2 {
		out := w.Out()
		if len(out) != 1 || !bytes.Equal(out[0], want) {
			t.Fatalf("P801: %x, want %x", out, want)
		}
		spoil(out[0])
		w.ticks(1)
	}
	w.Out()
	early := encoded(t, api.FrameData, 7, 1, 51, 10, "early")
	w.takes("P810", early, api.OK)
	spoil(early)
	first := encoded(t, api.FrameData, 7, 1, 50, 10, "first")
	got, e := w.Take(first)
	if e != api.OK || len(got) != 2 {
		t.Fatalf("Take: %q, %v", got, e)
	}
	spoil(first)
	spoil(got[0])
	if string(got[1]) != "early" {
		t.Fatalf("P801: two payloads share memory: %q", got)
	}
	w.Send([]byte("one"))
	w.ticks(1)
	out := w.Out()
	for i := range out {
		before := bytes.Clone(out[(i+1)%len(out)])
		spoil(out[i])
		if !bytes.Equal(out[(i+1)%len(out)], before) {
			t.Fatalf("P801: two frames share memory")
		}
	}
	clear(out[:cap(out)])
	w.ticks(1)
	w.lays("P801", encoded(t, api.FrameData, 1, 7, 10, 52, "pppppppppp"), encoded(t, api.FrameData, 1, 7, 11, 52, "one"))
}

// P801: two links share nothing.
func TestLinksApart(t *testing.T) {
	a, b := opened(t, 2, 3, 2, 5), opened(t, 2, 3, 2, 5)
	a.sends("x", api.OK)
	a.takes("early", encoded(t, api.FrameData, 7, 1, 51, 10, "early"), api.OK)
	a.ticks(4)
	b.is("P801", api.LinkOpen, 7, 0, 0)
	b.lays("P801")
	b.takes("P801", encoded(t, api.FrameData, 7, 1, 50, 10, "x"), api.OK, "x")
	b.ticks(4)
	b.is("P801", api.LinkOpen, 7, 0, 0)
	a.ticks(1)
	a.is("P812", api.LinkDead, 0, 0, 0)
	b.is("P801", api.LinkOpen, 7, 0, 0)
}
