package wire

import (
	"bytes"
	"math"

	"replica/api"
)

const byteBits = 8

// appendNumber writes the lowest bytes of a number, as many as its width says, the highest first.
func appendNumber(out []byte, value uint64, width int) []byte {
	for i := range width {
		out = append(out, byte(value>>(byteBits*(width-1-i))))
	}
	return out
}

// appendField writes what the packet has there. That it fits is known.
func appendField(out []byte, f field, p *parts) []byte {
	switch f := f.(type) {
	case number:
		out = appendNumber(out, uint64(p.numbers[bounds[f].place]), numberSize)
	case identifiers:
		for _, g := range [...]uint64{p.gens.Current, p.gens.Bitmap, p.gens.Old1, p.gens.Old2} {
			out = appendNumber(out, g, identSize)
		}
	case sum:
		out = append(out, p.sum[:]...)
	case data:
		out = appendNumber(out, uint64(len(p.data)), lengthSize)
		out = append(out, p.data...)
	}
	return out
}

// reader goes over bytes from the front, up to the first that cannot stand where it does. There it is stuck: all that is asked of it then is zero, so that none of its callers asks.
type reader struct {
	bytes []byte
	at    int
	stuck bool
}

// reason tells why the bytes are not just one packet, once all of its fields were read.
func (r *reader) reason() api.Errno {
	switch {
	case r.stuck && r.at == len(r.bytes):
		return api.ErrShort
	case r.stuck && r.at == 0:
		return api.ErrCmd
	case r.stuck:
		return api.ErrBody
	case r.at < len(r.bytes):
		return api.ErrExtra
	}
	return api.OK
}

// number reads a number. Each of its bytes is asked for when it comes: whether some number that may stand there begins so.
func (r *reader) number(width int, may spans) uint64 {
	var value uint64
	for i := range width {
		if r.stuck || r.at == len(r.bytes) {
			r.stuck = true
			return 0
		}
		value = value<<byteBits | uint64(r.bytes[r.at])
		open := byteBits * (width - 1 - i)
		if low := value << open; !may.meet(low, low|(1<<open-1)) {
			r.stuck = true
			return 0
		}
		r.at++
	}
	return value
}

func (r *reader) ident() uint64 { return r.number(identSize, spans{{0, math.MaxUint64}}) }

// take reads bytes of which nothing is said.
func (r *reader) take(count int) []byte {
	if r.stuck || count == 0 {
		return nil
	}
	if count > len(r.bytes)-r.at {
		r.at, r.stuck = len(r.bytes), true
		return nil
	}
	taken := bytes.Clone(r.bytes[r.at : r.at+count])
	r.at += count
	return taken
}

// field reads what a packet has there; those ahead of it have been read.
func (r *reader) field(f field, p *parts) {
	switch f := f.(type) {
	case number:
		p.numbers[bounds[f].place] = uint32(r.number(numberSize, f.may(p.numbers)))
	case identifiers:
		p.gens = api.Gens{Current: r.ident(), Bitmap: r.ident(), Old1: r.ident(), Old2: r.ident()}
	case sum:
		for i := range p.sum {
			p.sum[i] = byte(r.number(1, f.may(p.numbers)))
		}
	case data:
		p.data = r.take(int(r.number(lengthSize, f.may(p.numbers))))
	}
}
