package wire

import (
	"bytes"
	"encoding/binary"
	"hash/crc32"
	"math"
	"reflect"
	"testing"

	"replica/api"
)

// plainFrame lays a frame's bytes, whatever they say; length is what it tells of its payload.
func plainFrame(f api.Frame, length int) []byte {
	out := []byte{0x52, 0x46, byte(f.Kind), 1}
	for _, n := range []uint32{f.From, f.To, f.Seq, f.Ack} {
		out = binary.BigEndian.AppendUint32(out, n)
	}
	out = binary.BigEndian.AppendUint16(out, uint16(length))
	out = append(out, 0, 0, 0, 0)
	out = append(out, f.Payload...)
	return sealed(out)
}

// sealed lays the right checksum into a frame.
func sealed(b []byte) []byte {
	if len(b) < 26 {
		return b
	}
	clear(b[22:26])
	binary.BigEndian.PutUint32(b[22:], crc32.Checksum(b, crc32.MakeTable(crc32.Castagnoli)))
	return b
}

// plainFrameError goes through P706's list.
func plainFrameError(b []byte) api.Errno {
	if len(b) < 26 {
		return api.ErrShort
	}
	kind, length := b[2], int(b[20])<<8|int(b[21])
	switch {
	case b[0] != 'R' || b[1] != 'F' || b[3] != 1:
		return api.ErrMark
	case kind == 0 || kind > 4:
		return api.ErrCmd
	case length == 0 && kind == 2, length != 0 && kind != 2, length > 2048:
		return api.ErrBody
	case len(b) < 26+length:
		return api.ErrShort
	case len(b) > 26+length:
		return api.ErrExtra
	case !bytes.Equal(b, sealed(bytes.Clone(b))):
		return api.ErrSum
	}
	return api.OK
}

func wantFrame(t *testing.T, b []byte) {
	t.Helper()
	want := plainFrameError(b)
	f, e := DecodeFrame(b)
	if e != want || e != api.OK && !reflect.DeepEqual(f, api.Frame{}) {
		t.Fatalf("DecodeFrame(%x) = %+v, %d, want %d", b, f, e, want)
	}
	if e == api.OK && !bytes.Equal(plainFrame(f, len(f.Payload)), b) {
		t.Fatalf("DecodeFrame(%x) = %+v", b, f)
	}
}

func frames() []api.Frame {
	return []api.Frame{
		{Kind: api.FrameOpen}, {Kind: api.FrameOpen, From: 5},
		{Kind: api.FrameAck, From: 1, To: 2, Seq: 3, Ack: 4},
		{Kind: api.FrameClose, From: 0x01020304, To: math.MaxUint32, Seq: 0x80000000, Ack: 0x0a0b0c0d},
		{Kind: api.FrameData, Payload: []byte{0}},
		{Kind: api.FrameData, From: 7, To: 8, Seq: math.MaxUint32, Ack: 9, Payload: []byte("payload")},
		{Kind: api.FrameData, Seq: 1, Payload: bytes.Repeat([]byte{0xa5}, 2048)},
	}
}

// P705, P706.
func TestFrames(t *testing.T) {
	for _, f := range frames() {
		b, e := EncodeFrame(f)
		if e != api.OK || !bytes.Equal(b, plainFrame(f, len(f.Payload))) {
			t.Errorf("EncodeFrame(%+v) = %x, %d", f, b, e)
		}
		if g, e := DecodeFrame(b); e != api.OK || !reflect.DeepEqual(f, g) {
			t.Errorf("DecodeFrame(%x) = %+v, %d", b, g, e)
		}
	}
	ack := unhex("5246 03 01 00000001 00000002 00000003 00000004 0000")
	if b, _ := EncodeFrame(frames()[2]); len(b) != 26 || !bytes.Equal(b[:22], ack) {
		t.Errorf("example 7: %x", b)
	}
	b, _ := EncodeFrame(api.Frame{Kind: api.FrameOpen, Payload: []byte{}})
	if f, e := DecodeFrame(b); f.Payload != nil || e != api.OK {
		t.Errorf("a frame without a payload: %+v, %d", f, e)
	}
}

// P705: wrong kinds, some of which are one in their lowest byte, and each kind with each length; a wrong kind is told first.
func TestNoFrame(t *testing.T) {
	for _, kind := range []int{math.MinInt, -254, -1, 0, 1, 2, 3, 4, 5, 255, 256, 258, 1<<32 + 2, math.MaxInt} {
		for _, length := range []int{0, 1, 2, 1024, 2047, 2048, 2049, 4096, 65535, 65536, 65537, 65536 + 2048} {
			want := api.OK
			switch {
			case kind < 1 || kind > 4:
				want = api.ErrCmd
			case (kind == 2) == (length == 0) || length > 2048:
				want = api.ErrBody
			}
			b, e := EncodeFrame(api.Frame{Kind: kind, From: 1, Payload: make([]byte, length)})
			if e != want || (e == api.OK) != (b != nil) {
				t.Errorf("EncodeFrame: kind %d, %d bytes: %x, %d, want %d", kind, length, b, e, want)
			}
		}
	}
}

// P706: every bit turned, with the old checksum and with the right one; every length; bytes behind.
func TestTurnedBits(t *testing.T) {
	for _, f := range frames() {
		whole := plainFrame(f, len(f.Payload))
		for i := range 8 * min(len(whole), 40) {
			b := bytes.Clone(whole)
			b[i/8] ^= 1 << (i % 8)
			if e := plainFrameError(b); e == api.OK {
				t.Fatalf("%x is taken", b)
			}
			wantFrame(t, b)
			wantFrame(t, sealed(b))
		}
		for n := range whole {
			wantFrame(t, whole[:n])
		}
		wantFrame(t, append(bytes.Clone(whole), 0))
		wantFrame(t, append(bytes.Clone(whole), whole...))
	}
}

// P706: of several that are wrong the first of the list is told.
func TestFirstThatApplies(t *testing.T) {
	for _, first := range []byte{'R', 'r'} {
		for _, second := range []byte{'F', 'f'} {
			for _, version := range []byte{0, 1, 2} {
				for _, kind := range []byte{0, 1, 2, 3, 4, 5, 255} {
					for _, length := range []int{0, 1, 2, 2048, 2049, 65535} {
						for _, bytesThere := range []int{0, 1, 2, 3, 2047, 2048, 2049, 65535} {
							for _, turned := range []byte{0, 1} {
								b := plainFrame(api.Frame{Payload: make([]byte, bytesThere)}, length)
								b[0], b[1], b[2], b[3] = first, second, kind, version
								if bytesThere < 65535 || length > 2048 {
									sealed(b)
								}
								b[25] ^= turned
								wantFrame(t, b)
							}
						}
					}
				}
			}
		}
	}
	for n := range 26 {
		for _, fill := range []byte{0, 1, 0x52, 0xff} {
			wantFrame(t, bytes.Repeat([]byte{fill}, n))
		}
	}
}

// P701, P706: rolled bytes.
func TestRolledFrames(t *testing.T) {
	var d dice
	for range 20000 {
		f := frames()[d.roll(6)]
		b := plainFrame(f, len(f.Payload))
		for range d.roll(4) {
			b[d.roll(len(b))] = byte(d.roll(256))
		}
		if d.roll(2) == 0 {
			sealed(b)
		}
		if d.roll(4) == 0 {
			b = b[:d.roll(len(b)+1)]
		}
		wantFrame(t, b)
	}
}

// P701: neither what is handed in nor what lies behind its end is changed, and no answer shares memory with it or with another answer.
func TestFramesShareNothing(t *testing.T) {
	for _, f := range frames() {
		room := append(bytes.Clone(f.Payload), "spare room"...)
		before := bytes.Clone(room)
		f.Payload = room[:len(f.Payload)]
		b, _ := EncodeFrame(f)
		c, _ := EncodeFrame(f)
		scribble(c)
		if !bytes.Equal(room, before) || !bytes.Equal(b, plainFrame(f, len(f.Payload))) {
			t.Fatalf("EncodeFrame(%+v) shares memory", f)
		}
		given := append(bytes.Clone(b), "spare room"...)
		kept := bytes.Clone(given)
		first, _ := DecodeFrame(given[:len(b)])
		second, _ := DecodeFrame(given[:len(b)])
		scribble(second.Payload)
		if !bytes.Equal(given, kept) {
			t.Fatalf("DecodeFrame(%x) shares memory with its bytes", b)
		}
		scribble(given)
		if !bytes.Equal(plainFrame(first, len(first.Payload)), b) {
			t.Fatalf("DecodeFrame(%x) shares memory", b)
		}
	}
}
