package link

import (
	"slices"

	"replica/api"
)

// meaning: what a number in a frame says, held against the number that is awaited.
type meaning int

const (
	old meaning = iota
	expected
	early
	far
)

// half of all numbers count as behind the awaited one, half as ahead of it.
const half = 1 << 31

// read tells what a number says where reach numbers, the awaited one the first of them, are within reach.
func read(number, awaited uint32, reach int) meaning {
	switch d := number - awaited; {
	case d == 0:
		return expected
	case d >= half:
		return old
	case d < uint32(reach):
		return early
	default:
		return far
	}
}

// hear does with a frame what its kind asks for, and gives the payloads that are in order now.
func (l *Link) hear(f api.Frame) ([][]byte, api.Errno) {
	if f.Kind == api.FrameOpen {
		return nil, l.meet(f)
	}
	if l.session.peer == 0 || f.From != l.session.peer || f.To != l.mine {
		return nil, api.ErrOther
	}
	l.joined()
	if f.Kind == api.FrameClose {
		l.end(api.LinkClosed)
		return nil, api.OK
	}
	if e := l.acknowledge(f.Ack); e != api.OK || f.Kind == api.FrameAck {
		return nil, e
	}
	return l.receive(f.Seq, f.Payload)
}

// meet takes a FrameOpen: the other side's session is told, maybe once more, maybe a new one.
func (l *Link) meet(f api.Frame) api.Errno {
	if f.From == 0 || f.From < l.newest {
		return api.ErrOther
	}
	if l.state == api.LinkOpen && f.From == l.session.peer {
		l.layNote(api.FrameAck)
		return api.ErrOld
	}
	l.newest = f.From
	if l.state == api.LinkOpen {
		l.end(api.LinkDead)
		return api.OK
	}
	l.session.peer, l.session.expected = f.From, f.Seq
	if f.To != l.mine {
		l.layOpen()
		return api.OK
	}
	l.joined()
	l.layNote(api.FrameAck)
	return api.OK
}

// joined: the other side has named this session, so it has heard of it.
func (l *Link) joined() {
	if l.state == api.LinkOpening {
		l.state = api.LinkOpen
		l.session.again, l.session.silence = every(l.resend), every(l.dead)
	}
}

// acknowledge lets out of flight what is ahead of the number that the other side awaits.
func (l *Link) acknowledge(number uint32) api.Errno {
	s := &l.session
	switch read(number, s.oldest(), s.flying+1) {
	case far:
		return api.ErrFar
	case early:
		count := int(number - s.oldest())
		s.queue = slices.Delete(s.queue, 0, count)
		s.flying -= count
	}
	return api.OK
}

// receive takes a payload of the other side.
func (l *Link) receive(number uint32, payload []byte) ([][]byte, api.Errno) {
	switch read(number, l.session.expected, l.window) {
	case far:
		return nil, api.ErrFar
	case old:
		l.layNote(api.FrameAck) // the one that was laid for it may be lost
		return nil, api.ErrOld
	}
	if _, kept := l.session.early[number]; !kept {
		l.session.early[number] = payload
	}
	given := l.session.give()
	l.layNote(api.FrameAck)
	return given, api.OK
}

// give takes out what is in order now.
func (s *session) give() [][]byte {
	var given [][]byte
giving:
	for {
		payload, kept := s.early[s.expected]
		switch {
		case kept:
			given = append(given, payload)
			delete(s.early, s.expected)
			s.expected++
		default:
			break giving
		}
	}
	return given
}
