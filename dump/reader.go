package dump

import (
	"strconv"
	"strings"

	"replica/api"
	"replica/bitmap"
)

const maxNumber = 1 << 62

// fault: the place of what cannot stand. The reading of a text gives up with it, by a panic, so that none of its callers but Parse asks.
type fault int

// token: a word, the mark, or, where the text is at its end, nothing; at is the place of its first byte.
type token struct {
	text string
	at   int
}

func (t token) demand(stands bool) {
	if !stands {
		panic(fault(t.at))
	}
}

// reader takes tokens off a text; what lies ahead of at is read.
type reader struct {
	text string
	at   int
}

// readDump gives a dump that is valid.
func readDump(text string) api.Dump {
	r := reader{text: text}
	var m api.Dump
	s := &m.Super
	parts := []struct {
		first string
		rest  func()
	}{
		{formPart, func() { r.want(formNumber) }},
		{seqPart, func() { s.Seq = r.number(1, maxNumber) }},
		{devicePart, func() { s.Blocks, s.Size, s.Slots = r.device() }},
		{gensPart, func() { s.Gens = r.gens() }},
		{flagsPart, func() { s.Flags = r.flags() }},
		{markPart, func() { s.Mark = r.small(0, s.Blocks) }},
		{slotsPart, func() { m.Slots = r.slots(s.Slots, extentCount(s.Blocks)) }},
		{bitsPart, func() { m.Bits = r.bits(s.Blocks) }},
	}
	for _, part := range parts {
		r.want(part.first)
		part.rest()
		r.want(stop)
	}
	r.want("")
	return m
}

// next reads a token whole, wherever it stands.
func (r *reader) next() token {
	inComment := false
	for i, c := range r.text[r.at:] {
		at := r.at + i
		switch {
		case inComment:
			inComment = c != '\n'
		case c == '#':
			inComment = true
		case c == ' ' || c == '\t' || c == '\n' || c == '\r':
		case c == ';':
			return r.take(at, at+len(stop))
		case inWord(c):
			return r.take(at, r.wordEnd(at))
		default:
			panic(fault(at))
		}
	}
	return r.take(len(r.text), len(r.text))
}

// take gives the token from one place up to another, behind which the next one is looked for.
func (r *reader) take(first int, end int) token {
	r.at = end
	return token{r.text[first:end], first}
}

func (r *reader) wordEnd(first int) int {
	for i, c := range r.text[first:] {
		if !inWord(c) {
			return first + i
		}
	}
	return len(r.text)
}

func inWord(c rune) bool { return c >= 'a' && c <= 'z' || c >= '0' && c <= '9' || c == '-' }

func (r *reader) want(text string) {
	t := r.next()
	t.demand(t.text == text)
}

// further reads the next word of a part that may have any number of them; false: the part ends here, and its mark is left to be read.
func (r *reader) further() (token, bool) {
	t := r.next()
	if t.text == stop {
		r.at = t.at
		return token{}, false
	}
	return t, true
}

func (r *reader) number(low uint64, high uint64) uint64 {
	t := r.next()
	n, ok := numberOf(t.text)
	t.demand(ok && n >= low && n <= high)
	return n
}

func (r *reader) small(low int, high int) int { return int(r.number(uint64(low), uint64(high))) }

func (r *reader) device() (blocks int, size int, slots int) {
	blocks = r.small(1, api.MaxBlocks)
	size = r.size()
	slots = r.small(api.MinSlots, api.MaxSlots)
	return blocks, size, slots
}

func (r *reader) size() int {
	t := r.next()
	n, ok := numberOf(t.text)
	t.demand(ok && n >= api.MinSize && n <= api.MaxSize && n&(n-1) == 0)
	return int(n)
}

func (r *reader) gens() api.Gens {
	return api.Gens{Current: r.id(), Bitmap: r.id(), Old1: r.id(), Old2: r.id()}
}

func (r *reader) id() uint64 {
	t := r.next()
	id, err := strconv.ParseUint(t.text, hexadecimal, 64)
	t.demand(err == nil && len(t.text) == idDigits)
	return id
}

// flags takes each flag's word only where its number is above those of all ahead of it: so they stand in order, and none twice.
func (r *reader) flags() uint32 {
	var flags uint32
	for t, more := r.further(); more; t, more = r.further() {
		flag := flagOf(t.text)
		t.demand(flag > flags)
		flags |= flag
	}
	return flags
}

// flagOf tells the flag of a word; 0: there is none.
func flagOf(word string) uint32 {
	for _, known := range flagWords {
		if known.word == word {
			return known.flag
		}
	}
	return 0
}

func (r *reader) slots(count int, extents int) []int {
	row := make([]int, count)
	for slot := range row {
		row[slot] = r.slot(extents)
	}
	return row
}

func (r *reader) slot(extents int) int {
	t := r.next()
	if t.text == freeSlot {
		return noExtent
	}
	extent, ok := numberOf(t.text)
	t.demand(ok && extent < uint64(extents))
	return int(extent)
}

func (r *reader) bits(blocks int) []uint64 {
	marks, _ := bitmap.New(blocks)
	var lowest uint64 // where the next run may begin
	for t, more := r.further(); more; t, more = r.further() {
		first, last, ok := runOf(t.text)
		t.demand(ok && first >= lowest && last < uint64(blocks))
		marks.SetRange(int(first), int(last-first)+1)
		lowest = last + 2
	}
	return marks.Words()
}

// runOf tells the first and the last bit of a run.
func runOf(word string) (first uint64, last uint64, ok bool) {
	head, tail, long := strings.Cut(word, between)
	first, ok = numberOf(head)
	if !long {
		return first, first, ok
	}
	last, fine := numberOf(tail)
	return first, last, ok && fine && last > first
}

// numberOf reads a number. No more than nineteen digits tell one that is low enough, as no 0 stands ahead.
func numberOf(word string) (uint64, bool) {
	n, err := strconv.ParseUint(word, decimal, 64)
	ahead := len(word) > 1 && word[0] == '0'
	return n, err == nil && !ahead && n <= maxNumber
}
