package greet

import (
	"replica/api"
	"replica/bitmap"
)

const wordBits = 64

// parts gives this node's bitmap in Bits packets.
func (m *Machine) parts() []api.Packet {
	var packets []api.Packet
	words := m.bits.Words()
	for first := 0; first < len(words); first += api.BitsChunk {
		count, bits := m.part(first)
		code, _ := bitmap.Encode(bits, words[first:first+count])
		packets = append(packets, api.Packet{Cmd: api.CmdBits, Block: uint32(first), Count: uint32(count), Data: code})
	}
	return packets
}

// part tells how many words a packet has that begins with the word first, and how many of the bitmap's bits lie in these.
func (m *Machine) part(first int) (int, int) {
	left := m.bits.Len() - first*wordBits
	bits := min(left, api.BitsChunk*wordBits)
	return (bits + wordBits - 1) / wordBits, bits
}

// takeBits takes the next part of the peer's bitmap; with the last one both sides have the same union.
func (m *Machine) takeBits(p api.Packet) ([]api.Packet, bool, api.Errno) {
	first := len(m.heard)
	count, bits := m.part(first)
	if p.Block != uint32(first) || p.Count != uint32(count) {
		return m.refuse(api.ErrProto)
	}
	words, _, e := bitmap.Decode(bits, p.Data)
	if e != api.OK {
		return m.refuse(api.ErrProto)
	}
	m.heard = append(m.heard, words...)
	if first*wordBits+bits < m.bits.Len() {
		return m.goOn(api.CmdBits)
	}
	m.bits.Merge(m.heard)
	return m.finish()
}
