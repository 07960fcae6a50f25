package cluster

import (
	"strconv"
	"strings"

	"replica/api"
)

const (
	maxLine   = 200 // bytes
	maxDigits = 9
	maxPicks  = 16 // bytes
	maxRounds = 9999
	maxLength = 4096 // bytes of a write that says its length
)

// event: a line as it was read. What its kind does not carry is zero.
type event struct {
	play   func(c *Cluster, ev event) []string // nil: there is nothing to play
	name   string
	node   int
	number int
	fill   []byte
	length int // of a write's data; -1: a block's size
	picks  []byte
	more   bool // discard or force stands there
}

// readEvent reads a line. One without words, or with a comment, is an event that does nothing.
func readEvent(line string) (event, api.Errno) {
	if len(line) > maxLine {
		return event{}, api.ErrLong
	}
	words := strings.FieldsFunc(line, isBlank)
	if len(words) == 0 || words[0][0] == '#' {
		return event{}, api.OK
	}
	h, known := handlers[words[0]]
	ev := event{play: h.play, name: words[0], length: -1}
	if !known || !ev.readWords(h, words[1:]) {
		return event{}, api.ErrLine
	}
	return ev, api.OK
}

func isBlank(c rune) bool { return c == ' ' }

// readWords reads the words behind the first one; false: they make no event of that kind.
func (ev *event) readWords(h handler, words []string) bool {
	kinds := strings.Fields(h.form)
	least := len(kinds)
	if h.more != "" {
		kinds = append(kinds, h.more)
	}
	if len(words) < least || len(words) > len(kinds) {
		return false
	}
	for i, word := range words {
		if !ev.readWord(kinds[i], word) {
			return false
		}
	}
	return true
}

func (ev *event) readWord(kind, word string) bool {
	var ok bool
	switch kind {
	case "NODE":
		ev.node = strings.Index(nodeNames, word)
		ok = len(word) == 1 && ev.node >= 0
	case "NUMBER":
		ev.number, ok = readNumber(word)
	case "ROUNDS":
		ev.number, ok = readNumber(word)
		ok = ok && ev.number <= maxRounds
	case "LENGTH":
		ev.length, ok = readNumber(word)
		ok = ok && ev.length <= maxLength
	case "FILL":
		ev.fill, ok = readBytes(word)
		ok = ok && isFill(len(ev.fill))
	case "PICKS":
		ev.picks, ok = readBytes(word)
		ok = word == "-" || ok && len(ev.picks) <= maxPicks
	default: // a word that stands for itself
		ev.more = word == kind
		ok = ev.more
	}
	return ok
}

// isFill: a power of two.
func isFill(length int) bool { return length <= api.MaxFill && length&(length-1) == 0 }

func readNumber(word string) (int, bool) {
	if len(word) > maxDigits || len(word) > 1 && word[0] == '0' {
		return 0, false
	}
	n, err := strconv.ParseUint(word, 10, 64)
	return int(n), err == nil
}

// readBytes reads bytes of two digits each.
func readBytes(word string) ([]byte, bool) {
	list := make([]byte, len(word)/2)
	for i := range len(word) / 2 * 2 {
		digit := strings.IndexByte(hexDigits, word[i])
		if digit < 0 {
			return nil, false
		}
		list[i/2] = list[i/2]<<4 | byte(digit)
	}
	return list, len(word)%2 == 0
}
