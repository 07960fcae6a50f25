package wire

import (
	"bytes"
	"encoding/binary"
	"slices"

	"replica/api"
)

// dice rolls the same numbers at each run.
type dice uint64

func (d *dice) roll(n int) int {
	*d = *d*6364136223846793005 + 1442695040888963407
	return int(uint64(*d) >> 33 % uint64(n))
}

// layouts: what each command carries, as the chapter's table has it, by the fields' first letters.
var layouts = [...]string{
	1: "ICF", 2: "D", 3: "S", 4: "BCF", 5: "CFG", 6: "F", 7: "BCD", 8: "IBED", 9: "IBE", 10: "IB", 11: "IB", 12: "IBF", 13: "EC",
	14: "EC", 15: "IBFS", 16: "IB", 17: "IBD", 18: "IB", 19: "C", 20: "IBS", 21: "IBF", 22: "C", 23: "G", 24: "IB", 25: "IBFD",
}

// numberOf finds a number of a packet by its letter; nil: the letter is no number's.
func numberOf(p *api.Packet, letter rune) *uint32 {
	switch letter {
	case 'I':
		return &p.Id
	case 'B':
		return &p.Block
	case 'E':
		return &p.Epoch
	case 'C':
		return &p.Count
	case 'F':
		return &p.Flags
	}
	return nil
}

// plainWhole: the whole of a packet is as the chapter's table says, read line by line.
func plainWhole(p api.Packet) bool {
	if p.Cmd < 1 || p.Cmd > 25 {
		return false
	}
	rest := p
	for _, letter := range layouts[p.Cmd] {
		switch n := numberOf(&rest, letter); {
		case n != nil:
			*n = 0
		case letter == 'G':
			rest.Gens = api.Gens{}
		case letter == 'S':
			rest.Sum = [32]byte{}
		case letter == 'D':
			rest.Data = nil
		}
	}
	beside := rest.Id|rest.Block|rest.Epoch|rest.Count|rest.Flags != 0 || rest.Gens != api.Gens{} || rest.Sum != [32]byte{} || len(rest.Data) > 0
	return !beside && plainFields(p)
}

func plainFields(p api.Packet) bool {
	isId := p.Id >= 1 && p.Id <= 2147483647
	isBlock := p.Block <= 4095
	content := len(p.Data) >= 1 && len(p.Data) <= 1024
	switch p.Cmd {
	case 1:
		return p.Count >= p.Id
	case 2:
		return len(p.Data) == 16
	case 4:
		return p.Block >= 1 && p.Block <= 4096 && (p.Count == 128 || p.Count == 256 || p.Count == 512 || p.Count == 1024)
	case 5:
		return p.Count <= 4096 && p.Flags <= 31
	case 6:
		return slices.Contains([]uint32{0, 1, 4, 5, 8, 9}, p.Flags)
	case 7:
		return p.Block <= 63 && p.Count >= 1 && p.Count <= 8 && p.Block+p.Count <= 64 && len(p.Data) >= 1 && len(p.Data) <= 256
	case 8:
		return isId && isBlock && p.Epoch >= 1 && content
	case 9:
		return isId && isBlock && p.Epoch >= 1
	case 12:
		return isId && isBlock && p.Flags >= 1 && p.Flags <= 255
	case 13, 14:
		return p.Epoch >= 1 && p.Count >= 1 && p.Count <= 64
	case 15:
		return isId && isBlock && (p.Flags == 0 || p.Flags == 1 && p.Sum == [32]byte{})
	case 17:
		return isId && isBlock && content
	case 21:
		return isId && isBlock && p.Flags <= 1
	case 25:
		return isId && isBlock && (p.Flags == 0 && content || p.Flags >= 1 && p.Flags <= 255 && len(p.Data) == 0)
	case 10, 11, 16, 18, 20, 24:
		return isId && isBlock
	}
	return true
}

// plainBytes lays the fields of a packet one behind the other, whatever they are.
func plainBytes(p api.Packet) []byte {
	out := []byte{byte(p.Cmd)}
	for _, letter := range layouts[p.Cmd] {
		switch n := numberOf(&p, letter); {
		case n != nil:
			out = binary.BigEndian.AppendUint32(out, *n)
		case letter == 'G':
			out = binary.BigEndian.AppendUint64(out, p.Gens.Current)
			out = binary.BigEndian.AppendUint64(out, p.Gens.Bitmap)
			out = binary.BigEndian.AppendUint64(out, p.Gens.Old1)
			out = binary.BigEndian.AppendUint64(out, p.Gens.Old2)
		case letter == 'S':
			out = append(out, p.Sum[:]...)
		case letter == 'D':
			out = binary.BigEndian.AppendUint16(out, uint16(len(p.Data)))
			out = append(out, p.Data...)
		}
	}
	return out
}

// plainPacket takes bytes apart by their lengths alone: whether they are a packet's the caller asks. false: the lengths are not those of the command's fields.
func plainPacket(b []byte) (api.Packet, bool) {
	if len(b) == 0 || b[0] < 1 || b[0] > 25 {
		return api.Packet{}, false
	}
	p := api.Packet{Cmd: int(b[0])}
	b = bytes.Clone(b[1:])
	for _, letter := range layouts[p.Cmd] {
		size := map[rune]int{'G': 32, 'S': 32, 'D': 2}[letter]
		n := numberOf(&p, letter)
		if n != nil {
			size = 4
		}
		if len(b) < size {
			return api.Packet{}, false
		}
		switch {
		case n != nil:
			*n = binary.BigEndian.Uint32(b)
		case letter == 'G':
			p.Gens = api.Gens{Current: binary.BigEndian.Uint64(b), Bitmap: binary.BigEndian.Uint64(b[8:]), Old1: binary.BigEndian.Uint64(b[16:]), Old2: binary.BigEndian.Uint64(b[24:])}
		case letter == 'S':
			p.Sum = [32]byte(b)
		case letter == 'D':
			length := int(binary.BigEndian.Uint16(b))
			size += length
			if len(b) < size {
				return api.Packet{}, false
			}
			if length > 0 {
				p.Data = b[2:size:size]
			}
		}
		b = b[size:]
	}
	return p, len(b) == 0
}

func isPacket(b []byte) bool {
	p, ok := plainPacket(b)
	return ok && plainWhole(p)
}

// edges: numbers at and beside every bound that the table names.
var edges = []uint32{0, 1, 2, 3, 4, 5, 7, 8, 9, 10, 15, 16, 17, 31, 32, 60, 61, 63, 64, 65, 127, 128, 129, 255, 256, 257, 511, 512, 513, 1023, 1024, 1025, 2048, 4095, 4096, 4097, 1<<16 + 1, 1<<31 - 1, 1 << 31, 1<<31 + 1, 1<<32 - 2, 1<<32 - 1}

// onlooker says of any bytes whether some packet begins so, by looking for one; it remembers what it found.
type onlooker struct{ known map[string]bool }

func (o onlooker) begins(start []byte) bool {
	found, ok := o.known[string(start)]
	if !ok {
		found = o.looks(start)
		o.known[string(start)] = found
	}
	return found
}

func (o onlooker) looks(start []byte) bool {
	if len(start) == 0 {
		return true
	}
	if start[0] < 1 || start[0] > 25 {
		return false
	}
	return o.completes(start, []byte{start[0]}, layouts[start[0]])
}

// completes tries ways to go on from done, which agrees with start, through the fields that are left. A number between two bounds begins as the bytes do, if one of the bounds does, or the least number that does lies between them: so the edges and that number suffice.
func (o onlooker) completes(start, done []byte, left string) bool {
	if left == "" {
		return len(done) >= len(start) && isPacket(done)
	}
	for _, next := range o.ways(start, done, rune(left[0])) {
		both := min(len(next), len(start))
		if bytes.Equal(next[:both], start[:both]) && o.completes(start, next, left[1:]) {
			return true
		}
	}
	return false
}

func (o onlooker) ways(start, done []byte, letter rune) [][]byte {
	var out [][]byte
	given := start[min(len(done), len(start)):]
	add := func(more []byte) { out = append(out, append(bytes.Clone(done), more...)) }
	switch letter {
	case 'G', 'S':
		more := make([]byte, 32)
		copy(more, given)
		add(more)
	case 'D':
		lengths := lows(given, 2)
		if len(given) < 2 {
			lengths = append(lengths, 0, 1, 16, 256, 1024)
		}
		for _, length := range lengths {
			more := make([]byte, 2+length)
			binary.BigEndian.PutUint16(more, uint16(length))
			copy(more[2:], given[min(2, len(given)):])
			add(more)
		}
	default:
		numbers := edges
		switch {
		case len(given) == 0: // what lies behind the end need only be possible
			numbers = []uint32{1, 0, 128, 1<<32 - 1}
		case len(given) >= 4: // the number itself
			numbers = nil
		}
		if done[0] == 1 && letter == 'C' { // the bound here is another field
			numbers = append(slices.Clone(numbers), binary.BigEndian.Uint32(done[1:]))
		}
		if done[0] == 7 && letter == 'C' {
			numbers = append(slices.Clone(numbers), 64-binary.BigEndian.Uint32(done[1:]))
		}
		for _, n := range append(lows(given, 4), numbers...) {
			add(binary.BigEndian.AppendUint32(nil, n))
		}
	}
	return out
}

// lows: the least number of so many bytes that begins as given.
func lows(given []byte, size int) []uint32 {
	if len(given) == 0 {
		return nil
	}
	var low uint32
	for i := range size {
		low <<= 8
		if i < len(given) {
			low |= uint32(given[i])
		}
	}
	return []uint32{low}
}

// decode answers what P703 asks of DecodePacket.
func (o onlooker) decode(b []byte) (api.Packet, int, api.Errno) {
	if p, ok := plainPacket(b); ok && plainWhole(p) {
		return p, 0, api.OK
	}
	place := 0
	for place < len(b) && o.begins(b[:place+1]) {
		place++
	}
	switch {
	case place == len(b):
		return api.Packet{}, place, api.ErrShort
	case place == 0:
		return api.Packet{}, place, api.ErrCmd
	case isPacket(b[:place]):
		return api.Packet{}, place, api.ErrExtra
	}
	return api.Packet{}, place, api.ErrBody
}
