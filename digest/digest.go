// Package digest: SHA-256, its keyed form and CRC-32C, written here (layer 1).
package digest

const (
	chunkSize  = 64
	lengthSize = 8 // the message's length in bits closes the last chunk
)

// Hash: a SHA-256 of bytes that come piece by piece. New makes it.
type Hash struct {
	state   state
	waiting chunk // its first count mod 64 bytes are not yet in the state
	count   uint64
}

// New gives a Hash that has been given nothing.
func New() *Hash { return &Hash{state: firstState} }

// Write adds bytes.
func (h *Hash) Write(p []byte) {
	filled := int(h.count % chunkSize)
	h.count += uint64(len(p))
	for len(p) > 0 {
		n := copy(h.waiting[filled:], p)
		p = p[n:]
		filled += n
		if filled == chunkSize {
			h.state = mix(h.state, h.waiting)
			filled = 0
		}
	}
}

// Count tells how many bytes were added.
func (h *Hash) Count() uint64 { return h.count }

// Sum tells the digest of what was added so far; more may be added behind it.
func (h *Hash) Sum() [32]byte {
	// A copy takes the padding, so that the Hash itself can go on.
	last := *h
	bits := h.count * 8
	padding := chunk{0x80}
	last.Write(padding[:paddingLength(h.count)])
	var length [lengthSize]byte
	for i := range lengthSize {
		length[i] = byte(bits >> (8 * (lengthSize - 1 - i)))
	}
	last.Write(length[:])
	return last.state.bytes()
}

// Reset forgets what was added.
func (h *Hash) Reset() { *h = Hash{state: firstState} }

// paddingLength tells how many bytes, from 1 to 64, leave just the room of the length in the last chunk.
func paddingLength(count uint64) int {
	filled := int(count % chunkSize)
	end := chunkSize - lengthSize
	if filled >= end {
		end += chunkSize
	}
	return end - filled
}

// Sum256 tells the SHA-256 digest of p.
func Sum256(p []byte) [32]byte {
	h := New()
	h.Write(p)
	return h.Sum()
}

// Mac tells the keyed digest (HMAC with SHA-256) of message under key.
func Mac(key []byte, message []byte) [32]byte {
	block := keyBlock(key)
	inner := keyed(block, 0x36, message)
	return keyed(block, 0x5c, inner[:])
}

// keyBlock gives the key as a whole chunk, a long one by its digest.
func keyBlock(key []byte) chunk {
	var block chunk
	if len(key) > chunkSize {
		sum := Sum256(key)
		copy(block[:], sum[:])
	} else {
		copy(block[:], key)
	}
	return block
}

// keyed tells the digest of the key's block, each byte turned by mask, followed by message.
func keyed(block chunk, mask byte, message []byte) [32]byte {
	for i := range chunkSize {
		block[i] ^= mask
	}
	h := New()
	h.Write(block[:])
	h.Write(message)
	return h.Sum()
}
