package dump

import (
	"encoding/binary"
	"fmt"
	"hash/crc32"
	"math"
	"math/big"
	"regexp"
	"slices"
	"strings"

	"replica/actlog"
	"replica/api"
	"replica/disk"
	"replica/meta"
)

// dice: numbers that look like chance and are the same each time.
type dice uint64

func (d *dice) below(n int) int {
	*d = *d*6364136223846793005 + 1442695040888963407
	return int(uint64(*d) >> 33 % uint64(n))
}

func (d *dice) word() uint64 {
	return uint64(d.below(1<<31))<<33 ^ uint64(d.below(1<<31))<<11 ^ uint64(d.below(1<<31))
}

func pick[T any](d *dice, from ...T) T { return from[d.below(len(from))] }

func sameDump(a, b api.Dump) bool {
	return a.Super == b.Super && slices.Equal(a.Bits, b.Bits) && slices.Equal(a.Slots, b.Slots)
}

func copied(m api.Dump) api.Dump {
	m.Bits, m.Slots = slices.Clone(m.Bits), slices.Clone(m.Slots)
	return m
}

func isSet(words []uint64, bit int) bool { return words[bit/64]>>(bit%64)&1 == 1 }

// plainValid: the chapter's words, field by field.
func plainValid(m api.Dump) bool {
	s := m.Super
	if s.Seq < 1 || s.Seq > 1<<62 || s.Blocks < 1 || s.Blocks > 4096 || !slices.Contains([]int{128, 256, 512, 1024}, s.Size) || s.Slots < 1 || s.Slots > 16 {
		return false
	}
	if s.Flags > 15 || s.Mark < 0 || s.Mark > s.Blocks || len(m.Slots) != s.Slots || len(m.Bits) != int(math.Ceil(float64(s.Blocks)/64)) {
		return false
	}
	for bit := s.Blocks; bit < 64*len(m.Bits); bit++ {
		if isSet(m.Bits, bit) {
			return false
		}
	}
	for _, extent := range m.Slots {
		if extent < -1 || extent >= (s.Blocks+3)/4 {
			return false
		}
	}
	return true
}

// plainRuns goes over the bits one by one.
func plainRuns(m api.Dump) string {
	text := ""
	for bit := 0; bit < m.Super.Blocks; bit++ {
		if !isSet(m.Bits, bit) {
			continue
		}
		first := bit
		for bit+1 < m.Super.Blocks && isSet(m.Bits, bit+1) {
			bit++
		}
		if text += fmt.Sprintf(" %d", first); bit > first {
			text += fmt.Sprintf("-%d", bit)
		}
	}
	return text
}

// plainPrint: P1902, line by line.
func plainPrint(m api.Dump) (string, api.Errno) {
	if !plainValid(m) {
		return "", api.ErrField
	}
	s, flags, slots := m.Super, "", ""
	for i, word := range []string{"consistent", "outdated", "primary", "crashed"} {
		if s.Flags>>i&1 == 1 {
			flags += " " + word
		}
	}
	for _, extent := range m.Slots {
		if extent < 0 {
			slots += " -"
		} else {
			slots += fmt.Sprint(" ", extent)
		}
	}
	return fmt.Sprintf("replica-meta 1;\nseq %d;\ndevice %d %d %d;\ngens %016x %016x %016x %016x;\nflags%s;\nmark %d;\nslots%s;\nbits%s;\n",
		s.Seq, s.Blocks, s.Size, s.Slots, s.Gens.Current, s.Gens.Bitmap, s.Gens.Old1, s.Gens.Old2, flags, s.Mark, slots, plainRuns(m)), api.OK
}

var (
	gaps    = regexp.MustCompile(`^(?:[ \t\n\r]|#[^\n]*)*`)
	tokens  = regexp.MustCompile(`^(?:[-a-z0-9]+|;)`)
	numbers = regexp.MustCompile(`^(?:0|[1-9][0-9]{0,18})$`)
	ids     = regexp.MustCompile(`^[0-9a-f]{16}$`)
	spans   = regexp.MustCompile(`^([0-9]+)(?:-([0-9]+))?$`)
)

// plainNumber tells a number that is at most high; -1: the word is none.
func plainNumber(word string, high int64) int64 {
	n, ok := new(big.Int).SetString(word, 10)
	if !ok || !numbers.MatchString(word) || n.Cmp(big.NewInt(high)) > 0 {
		return -1
	}
	return n.Int64()
}

// plain: P1903's reading, as what the tokens so far say.
type plain struct {
	part  int      // how many parts have ended
	words []string // of the part that goes on, its first one too
	m     api.Dump
	above int // the bit behind the last run and its neighbour
}

var partNames = []string{"replica-meta", "seq", "device", "gens", "flags", "mark", "slots", "bits"}

// plainParse takes the tokens one by one. ended counts, by the part and the number of words, where reading gave up.
func plainParse(text string, ended map[string]int) (api.Dump, int, api.Errno) {
	if len(text) > 65536 {
		return api.Dump{}, 0, api.ErrLong
	}
	var p plain
	for at := 0; ; {
		at += len(gaps.FindString(text[at:]))
		token := tokens.FindString(text[at:])
		if at == len(text) && p.part == len(partNames) {
			return p.m, 0, api.OK
		}
		if token == "" || p.part == len(partNames) || !p.take(token) {
			ended[fmt.Sprint("part ", p.part, " word ", min(len(p.words), 9), " token ", min(len(token), 1), " end ", at == len(text))]++
			return api.Dump{}, at, api.ErrDump
		}
		at += len(token)
	}
}

func (p *plain) take(token string) bool {
	if len(p.words) == 0 {
		p.words = []string{token}
		return token == partNames[p.part]
	}
	least := []int{1, 1, 3, 4, 0, 1, p.m.Super.Slots, 0}[p.part]
	if token == ";" {
		whole := len(p.words) > least
		p.part, p.words = p.part+1, nil
		if p.part == 3 {
			p.m.Bits = make([]uint64, (p.m.Super.Blocks+63)/64)
		}
		return whole
	}
	many := p.part == 4 || p.part == 7
	if !many && len(p.words) > least {
		return false
	}
	p.words = append(p.words, token)
	return p.say(token, len(p.words)-2)
}

// say hears the word at a place behind the part's first one.
func (p *plain) say(word string, place int) bool {
	s := &p.m.Super
	switch p.part {
	case 0:
		return word == "1"
	case 1:
		n := plainNumber(word, 1<<62)
		s.Seq = uint64(n)
		return n >= 1
	case 2:
		n := plainNumber(word, []int64{4096, 1024, 16}[place])
		*[]*int{&s.Blocks, &s.Size, &s.Slots}[place] = int(n)
		return n >= 1 && (place != 1 || slices.Contains([]int64{128, 256, 512, 1024}, n))
	case 3:
		_, err := fmt.Sscanf(word, "%x", []*uint64{&s.Gens.Current, &s.Gens.Bitmap, &s.Gens.Old1, &s.Gens.Old2}[place])
		return ids.MatchString(word) && err == nil
	case 4:
		i := slices.Index([]string{"consistent", "outdated", "primary", "crashed"}, word)
		higher := i >= 0 && s.Flags>>max(i, 0) == 0
		s.Flags |= 1 << max(i, 0)
		return higher
	case 5:
		n := plainNumber(word, int64(s.Blocks))
		s.Mark = int(n)
		return n >= 0
	case 6:
		n := plainNumber(word, int64((s.Blocks+3)/4-1))
		p.m.Slots = append(p.m.Slots, int(n))
		return n >= 0 || word == "-"
	}
	return p.sayRun(word)
}

func (p *plain) sayRun(word string) bool {
	found := spans.FindStringSubmatch(word)
	if found == nil {
		return false
	}
	high := int64(p.m.Super.Blocks - 1)
	first := plainNumber(found[1], high)
	last := first
	if found[2] != "" {
		if last = plainNumber(found[2], high); last <= first {
			return false
		}
	}
	if first < int64(p.above) || last < 0 {
		return false
	}
	for bit := first; bit <= last; bit++ {
		p.m.Bits[bit/64] |= 1 << (bit % 64)
	}
	p.above = int(last) + 2
	return true
}

// plainTake: P1901, from what disk.Read tells.
func plainTake(d *disk.Disk) (api.Dump, api.Errno) {
	if d == nil {
		return api.Dump{}, api.ErrArg
	}
	if !d.On() {
		return api.Dump{}, api.ErrPower
	}
	read := func(block int) []byte {
		data, _ := d.Read(block)
		return data
	}
	total, size := d.Geometry()
	super, _, e := meta.Choose(read(total-2), read(total-1))
	if e != api.OK {
		return api.Dump{}, api.ErrSuper
	}
	l, _ := meta.Plan(super.Blocks, super.Size, super.Slots)
	if super.Size != size || l.Total != total {
		return api.Dump{}, api.ErrField
	}
	var area, ring [][]byte
	for block := l.Bitmap; block < l.Log; block++ {
		if area = append(area, read(block)); read(block) == nil {
			return api.Dump{}, api.ErrMedium
		}
	}
	for block := l.Log; block < l.Super; block++ {
		ring = append(ring, read(block))
	}
	words, _, _ := meta.Unpack(l.Blocks, area, size)
	row, _, e := actlog.Replay(l.Slots, (l.Blocks+3)/4, ring)
	if e != api.OK {
		return api.Dump{}, api.ErrRecord
	}
	return api.Dump{Super: super, Bits: words, Slots: row}, api.OK
}

// wrote: one block that was written past the cache.
type wrote struct {
	block int
	data  []byte
}

// plainWrites: what P1905 and P1906 want to be written, in its order; slot is the one that holds the superblock.
func plainWrites(m api.Dump, slot int) []wrote {
	s := m.Super
	l, _ := meta.Plan(s.Blocks, s.Size, s.Slots)
	writes := []wrote{{l.Super + 1 - slot, make([]byte, s.Size)}, {l.Super + slot, make([]byte, s.Size)}}
	area, _ := meta.Pack(s.Blocks, m.Bits, s.Size)
	for k, block := range area {
		writes = append(writes, wrote{l.Bitmap + k, block})
	}
	for i := range actlog.Ring(s.Slots) {
		writes = append(writes, wrote{l.Log + i, plainRecord(m, i)})
	}
	seal, _ := meta.Seal(s)
	return append(writes, wrote{l.Super, seal})
}

// plainRecord: P410's table, as P1906 fills it.
func plainRecord(m api.Dump, i int) []byte {
	block := make([]byte, m.Super.Size)
	x := slices.IndexFunc(m.Slots, func(extent int) bool { return extent >= 0 })
	if x < 0 {
		return block
	}
	long := func(at, n int) { binary.BigEndian.PutUint32(block[at:], uint32(n)) }
	copy(block, "actl")
	long(4, i)
	binary.BigEndian.PutUint16(block[8:], uint16(i))
	binary.BigEndian.PutUint16(block[10:], uint16(m.Super.Slots))
	long(12, x)
	long(16, m.Slots[x])
	long(20, 0xffffffff)
	start := 4 * i % m.Super.Slots
	long(24, start)
	for k := range 4 {
		long(28+4*k, m.Slots[(start+k)%m.Super.Slots])
	}
	end := len(block) - 4
	long(end, int(crc32.Checksum(block[:end], crc32.MakeTable(crc32.Castagnoli))))
	return block
}

// rolledDump gives a dump that is valid, of any kind of device.
func rolledDump(d *dice) api.Dump {
	blocks := pick(d, 1+d.below(20), 1+d.below(200), 1+d.below(4096), 1, 3, 4, 5, 63, 64, 65, 128, 1024, 1025, 4095, 4096)
	return rolledFor(d, blocks, pick(d, 128, 256, 512, 1024), pick(d, 1+d.below(16), 1, 4, 5, 8, 9, 16))
}

// rolledFor gives one of a certain device.
func rolledFor(d *dice, blocks, size, slots int) api.Dump {
	id := func() uint64 { return pick(d, 0, 1, 4, 10, 1<<63, math.MaxUint64, d.word(), d.word()>>d.below(64)) }
	s := api.Super{Seq: pick(d, 1, 2, 1<<62, 1<<62-1, 1+d.word()>>d.below(62)>>2), Blocks: blocks, Size: size, Slots: slots, Flags: uint32(d.below(16)), Mark: pick(d, 0, blocks, d.below(blocks+1))}
	s.Gens = api.Gens{Current: id(), Bitmap: id(), Old1: id(), Old2: id()}
	m := api.Dump{Super: s, Bits: make([]uint64, (blocks+63)/64), Slots: make([]int, slots)}
	odds, set := pick(d, 1, 2, 2, 10, 70, 1000), d.below(2) == 0
	for bit := range blocks {
		if d.below(odds) == 0 {
			set = !set
		}
		if set {
			m.Bits[bit/64] |= 1 << (bit % 64)
		}
	}
	free, extents := d.below(4), (blocks+3)/4
	for slot := range m.Slots {
		if m.Slots[slot] = -1; d.below(3) >= free {
			m.Slots[slot] = pick(d, d.below(extents), 0, extents-1)
		}
	}
	return m
}

// wordsOf: the tokens of a text without comments.
func wordsOf(text string) []string {
	return strings.Fields(strings.ReplaceAll(text, ";", " ; "))
}
