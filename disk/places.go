package disk

import "replica/api"

// place: where bytes of blocks lie, the medium or the cache. Bytes that were laid down are never changed, so one piece may lie in several places and blocks; it is copied where it comes into the disk and where it leaves it.
type place interface {
	// look gives the bytes that lie there: nil without an error, if the place holds none of that block.
	look(block int) ([]byte, error)
	lay(block int, data []byte)
}

// medium has the durable bytes of each block; those of a spoilt block are nil, for nothing can tell them any more.
type medium [][]byte

func blankMedium(blocks int, size int) medium {
	m := make(medium, blocks)
	zeroes := make([]byte, size)
	for block := range m {
		m[block] = zeroes
	}
	return m
}

func loadedMedium(blocks int, size int, image []byte) medium {
	m := make(medium, blocks)
	for block := range m {
		m[block] = copied(image[block*size : (block+1)*size])
	}
	return m
}

func (m medium) look(block int) ([]byte, error) {
	if m[block] == nil {
		return nil, refused(block, api.ErrMedium)
	}
	return m[block], nil
}

func (m medium) lay(block int, data []byte) { m[block] = data }

func (m medium) spoil(block int) { m[block] = nil }

// cache has the cached writes of each block that has any, the oldest first.
type cache map[int][][]byte

func (c cache) look(block int) ([]byte, error) {
	writes := c[block]
	if len(writes) == 0 {
		return nil, nil
	}
	return writes[len(writes)-1], nil
}

func (c cache) lay(block int, data []byte) { c[block] = append(c[block], data) }

// settle lays the first kept of the block's cached writes down, which leaves the last of them, and forgets them all.
func settle(from cache, to place, block int, kept int) {
	if kept > 0 {
		to.lay(block, from[block][kept-1])
	}
	delete(from, block)
}

// fetch gives a copy of the block's bytes from the first of the places that holds it.
func fetch(block int, places ...place) ([]byte, error) {
	for _, p := range places {
		data, err := p.look(block)
		if err != nil {
			return nil, err
		}
		if data != nil {
			return copied(data), nil
		}
	}
	return nil, nil
}

func refused(block int, why api.Errno) error {
	return &api.BlockError{Block: block, Err: why}
}

func copied(data []byte) []byte {
	out := make([]byte, len(data))
	copy(out, data)
	return out
}
