package link

import (
	"replica/api"
	"replica/wire"
)

// fill lets into flight what waits, as far as the window has room.
func (l *Link) fill() {
	s := &l.session
	for l.state == api.LinkOpen && s.flying < l.window && s.flying < len(s.queue) {
		l.layData(s.flying)
		s.flying++
		s.next++
	}
}

// layAgain lays what the other side may have missed. If that is nothing, it tells that this side is still there.
func (l *Link) layAgain() {
	switch {
	case l.state == api.LinkOpening:
		l.layOpen()
	case l.session.flying == 0:
		l.layNote(api.FrameAck)
	default:
		for i := range l.session.flying {
			l.layData(i)
		}
	}
}

// layOpen is called while opening alone, when nothing has flown: the next number is the first one still.
func (l *Link) layOpen() {
	l.lay(api.Frame{Kind: api.FrameOpen, Seq: l.session.next})
}

// layNote lays a frame that carries nothing: a FrameAck or a FrameClose.
func (l *Link) layNote(kind int) {
	l.lay(api.Frame{Kind: kind, Seq: l.session.next, Ack: l.session.expected})
}

// layData lays a payload, by its place in the queue.
func (l *Link) layData(i int) {
	l.lay(api.Frame{Kind: api.FrameData, Seq: l.session.oldest() + uint32(i), Ack: l.session.expected, Payload: l.session.queue[i]})
}

// lay keeps the frame as its bytes: what it says is what holds now, whatever comes ahead of the next Out.
func (l *Link) lay(f api.Frame) {
	f.From, f.To = l.mine, l.session.peer
	b, _ := wire.EncodeFrame(f) // refuses none of these: Send lets in no payload that a frame can't have
	l.laid = append(l.laid, b)
}

// oldest is the number of the first payload in flight or, if there is none, the next number.
func (s *session) oldest() uint32 {
	return s.next - uint32(s.flying)
}
