package wire

import (
	"bytes"

	"replica/api"
	"replica/digest"
)

// Where a frame's parts stand, and what its mark and version are.
const (
	mark      = "RF"
	version   = 1
	kindAt    = 2
	versionAt = 3
	wordsAt   = 4 // From, To, Seq, Ack
	lengthAt  = 20
	sumAt     = 22
	payloadAt = 26
)

// EncodeFrame writes a frame with its checksum.
func EncodeFrame(f api.Frame) ([]byte, api.Errno) {
	if e := checkHead(f.Kind, len(f.Payload)); e != api.OK {
		return nil, e
	}
	out := append([]byte(mark), byte(f.Kind), version)
	for _, w := range [...]uint32{f.From, f.To, f.Seq, f.Ack} {
		out = appendNumber(out, uint64(w), numberSize)
	}
	out = appendNumber(out, uint64(len(f.Payload)), lengthSize)
	out = appendNumber(out, uint64(frameSum(out, f.Payload)), payloadAt-sumAt)
	return append(out, f.Payload...), api.OK
}

// DecodeFrame reads what EncodeFrame writes.
func DecodeFrame(b []byte) (api.Frame, api.Errno) {
	if len(b) < payloadAt {
		return api.Frame{}, api.ErrShort
	}
	if string(b[:kindAt]) != mark || b[versionAt] != version {
		return api.Frame{}, api.ErrMark
	}
	kind, length, payload := int(b[kindAt]), int(readNumber(b[lengthAt:sumAt])), b[payloadAt:]
	if e := checkHead(kind, length); e != api.OK {
		return api.Frame{}, e
	}
	switch {
	case len(payload) < length:
		return api.Frame{}, api.ErrShort
	case len(payload) > length:
		return api.Frame{}, api.ErrExtra
	case readNumber(b[sumAt:payloadAt]) != frameSum(b[:sumAt], payload):
		return api.Frame{}, api.ErrSum
	}
	f := api.Frame{Kind: kind, From: word(b, 0), To: word(b, 1), Seq: word(b, 2), Ack: word(b, 3)}
	if length > 0 {
		f.Payload = bytes.Clone(payload)
	}
	return f, api.OK
}

// checkHead tells whether there is such a kind, and whether a payload of that length may stand in it.
func checkHead(kind, length int) api.Errno {
	if kind < api.FrameOpen || kind > api.FrameClose {
		return api.ErrCmd
	}
	if (kind == api.FrameData) != (length > 0) || length > api.MaxPayload {
		return api.ErrBody
	}
	return api.OK
}

// frameSum is the checksum of a frame: of what stands ahead of it, of zeroes in its own place, of the payload.
func frameSum(head, payload []byte) uint32 {
	var own [payloadAt - sumAt]byte
	return digest.CrcMore(digest.CrcMore(digest.Crc(head), own[:]), payload)
}

// word is one of the four numbers in a frame's head.
func word(b []byte, i int) uint32 {
	at := wordsAt + numberSize*i
	return readNumber(b[at : at+numberSize])
}

func readNumber(b []byte) uint32 {
	var value uint32
	for _, one := range b {
		value = value<<byteBits | uint32(one)
	}
	return value
}
