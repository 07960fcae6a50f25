package meta

import (
	"replica/api"
	"replica/digest"
)

// cursor goes over bytes from the front; who moves it knows that they suffice.
type cursor struct{ rest []byte }

func (c *cursor) take(count int) []byte {
	taken := c.rest[:count]
	c.rest = c.rest[count:]
	return taken
}

func (c *cursor) number(width int) uint64 {
	var number uint64
	for _, b := range c.take(width) {
		number = number<<byteBits | uint64(b)
	}
	return number
}

func (c *cursor) long() uint64 { return c.number(longSize) }

func (c *cursor) short() int { return int(c.number(shortSize)) }

// reader takes a superblock's parts off the cursor. Where one cannot stand it gives up by a panic with the error's number, so that none of its callers but Unseal asks.
type reader struct{ cursor }

// readSuper reads a block of a valid size. The seal is asked ahead of the fields: of a block that is torn nothing else is told.
func readSuper(block []byte) api.Super {
	body, seal := block[:len(block)-sealSize], block[len(block)-sealSize:]
	r := reader{cursor{body}}
	r.letters()
	demand(digest.Sum256(body) == [sealSize]byte(seal), api.ErrSeal)
	s := r.fields()
	demand(s.Size == len(block), api.ErrField)
	r.zeroes()
	return s
}

func (r *reader) letters() { demand(string(r.take(len(letters))) == letters, api.ErrMagic) }

func (r *reader) fields() api.Super {
	var s api.Super
	s.Seq = r.long()
	s.Blocks, s.Size, s.Slots, s.Mark = r.short(), r.short(), r.short(), r.short()
	s.Gens = r.gens()
	s.Flags = uint32(r.short())
	demand(validSuper(s), api.ErrField)
	return s
}

func (r *reader) gens() api.Gens {
	return api.Gens{Current: r.long(), Bitmap: r.long(), Old1: r.long(), Old2: r.long()}
}

func (r *reader) zeroes() {
	for _, b := range r.rest {
		demand(b == 0, api.ErrField)
	}
}

func demand(stands bool, fault api.Errno) {
	if !stands {
		panic(fault)
	}
}
