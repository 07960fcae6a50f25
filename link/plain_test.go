package link

import (
	"slices"

	"replica/api"
	"replica/wire"
)

// plain: a link as the chapter tells it, by counts and whole lists instead of what the program keeps.
type plain struct {
	window, backlog, resend, dead int

	state    int
	mines    []uint32 // of every Open
	told     []uint32 // From of every FrameOpen that was answered OK
	mine     uint32
	peer     uint32
	first    uint32
	accepted [][]byte // of this session
	flown    int      // how many of them have gone into flight
	heard    int      // how many of them have been acknowledged
	expected uint32
	kept     []parcel
	ticks    int // since Open or, if it is Open, since it became so
	quiet    int // ticks since the peer was heard
	laid     []api.Frame
}

type parcel struct {
	number  uint32
	payload []byte
}

// from a to b, modulo 2^32.
func from(a, b uint32) int64 {
	return (int64(b) - int64(a) + 1<<32) % (1 << 32)
}

func (p *plain) number(i int) uint32 { return uint32((uint64(p.first) + uint64(i)) % (1 << 32)) }

func (p *plain) lay(kind int, seq, ack uint32, payload []byte) {
	p.laid = append(p.laid, api.Frame{Kind: kind, From: p.mine, To: p.peer, Seq: seq, Ack: ack, Payload: payload})
}

func (p *plain) note(kind int) { p.lay(kind, p.number(p.flown), p.expected, nil) }

func (p *plain) on() bool { return p.state == api.LinkOpening || p.state == api.LinkOpen }

func (p *plain) flight() (int, int) { return p.flown - p.heard, len(p.accepted) - p.flown }

func (p *plain) end(state int) {
	p.state, p.peer, p.accepted, p.flown, p.heard, p.kept = state, 0, nil, 0, 0, nil
}

func (p *plain) fill() {
	for p.state == api.LinkOpen && p.flown-p.heard < p.window && p.flown < len(p.accepted) {
		p.lay(api.FrameData, p.number(p.flown), p.expected, p.accepted[p.flown])
		p.flown++
	}
}

func (p *plain) open(mine, first uint32) api.Errno {
	if p.on() {
		return api.ErrState
	}
	if mine == 0 || slices.ContainsFunc(p.mines, func(m uint32) bool { return m >= mine }) {
		return api.ErrArg
	}
	p.end(api.LinkOpening)
	p.mines = append(p.mines, mine)
	p.mine, p.first, p.expected, p.ticks = mine, first, 0, 0
	p.lay(api.FrameOpen, first, 0, nil)
	return api.OK
}

func (p *plain) close() {
	if p.state == api.LinkOpening && p.peer != 0 || p.state == api.LinkOpen {
		p.note(api.FrameClose)
	}
	if p.on() {
		p.end(api.LinkClosed)
	}
}

func (p *plain) send(payload []byte) api.Errno {
	flying, waiting := p.flight()
	switch {
	case !p.on():
		return api.ErrState
	case len(payload) == 0:
		return api.ErrSize
	case len(payload) > 2048:
		return api.ErrLong
	case flying+waiting == p.window+p.backlog:
		return api.ErrFull
	}
	p.accepted = append(p.accepted, slices.Clone(payload))
	p.fill()
	return api.OK
}

func (p *plain) take(b []byte) ([][]byte, api.Errno) {
	f, e := wire.DecodeFrame(b)
	if e != api.OK {
		return nil, e
	}
	if !p.on() {
		return nil, api.ErrState
	}
	before := p.state
	var given [][]byte
	if f.Kind == api.FrameOpen {
		e = p.takeOpen(f)
	} else {
		given, e = p.takeOther(f)
	}
	if before == api.LinkOpening && p.state == api.LinkOpen {
		p.ticks, p.quiet = 0, 0
	}
	if e == api.OK || e == api.ErrOld {
		p.quiet = 0
	}
	p.fill()
	return given, e
}

func (p *plain) takeOpen(f api.Frame) api.Errno {
	if f.From == 0 || slices.ContainsFunc(p.told, func(t uint32) bool { return t > f.From }) {
		return api.ErrOther
	}
	if p.state == api.LinkOpening {
		p.told = append(p.told, f.From)
		p.peer, p.expected = f.From, f.Seq
		if f.To == p.mine {
			p.state = api.LinkOpen
			p.note(api.FrameAck)
		} else {
			p.lay(api.FrameOpen, p.first, 0, nil)
		}
		return api.OK
	}
	if f.From == p.peer {
		p.note(api.FrameAck)
		return api.ErrOld
	}
	p.told = append(p.told, f.From)
	p.end(api.LinkDead)
	return api.OK
}

func (p *plain) takeOther(f api.Frame) ([][]byte, api.Errno) {
	if p.peer == 0 || f.From != p.peer || f.To != p.mine {
		return nil, api.ErrOther
	}
	p.state = api.LinkOpen
	if f.Kind == api.FrameClose {
		p.end(api.LinkClosed)
		return nil, api.OK
	}
	if d := from(p.number(p.heard), f.Ack); d <= int64(p.flown-p.heard) {
		p.heard += int(d)
	} else if d < 1<<31 {
		return nil, api.ErrFar
	}
	if f.Kind == api.FrameAck {
		return nil, api.OK
	}
	switch d := from(p.expected, f.Seq); {
	case d >= 1<<31:
		p.note(api.FrameAck)
		return nil, api.ErrOld
	case d >= int64(p.window):
		return nil, api.ErrFar
	}
	if p.find(f.Seq) < 0 {
		p.kept = append(p.kept, parcel{f.Seq, f.Payload})
	}
	var given [][]byte
	for i := p.find(p.expected); i >= 0; i = p.find(p.expected) {
		given = append(given, p.kept[i].payload)
		p.kept = slices.Delete(p.kept, i, i+1)
		p.expected++
	}
	p.note(api.FrameAck)
	return given, api.OK
}

func (p *plain) find(number uint32) int {
	return slices.IndexFunc(p.kept, func(one parcel) bool { return one.number == number })
}

func (p *plain) tick() {
	switch p.state {
	case api.LinkOpening:
		if p.ticks++; p.ticks%p.resend == 0 {
			p.lay(api.FrameOpen, p.first, 0, nil)
		}
	case api.LinkOpen:
		p.ticks++
		if p.quiet++; p.quiet == p.dead {
			p.end(api.LinkDead)
			return
		}
		if p.ticks%p.resend != 0 {
			return
		}
		for i := p.heard; i < p.flown; i++ {
			p.lay(api.FrameData, p.number(i), p.expected, p.accepted[i])
		}
		if p.heard == p.flown {
			p.note(api.FrameAck)
		}
	}
}

func (p *plain) out() [][]byte {
	var out [][]byte
	for _, f := range p.laid {
		b, _ := wire.EncodeFrame(f)
		out = append(out, b)
	}
	p.laid = nil
	return out
}
