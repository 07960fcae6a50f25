package conf

import (
	"strconv"
	"strings"
	"unicode/utf8"

	"replica/api"
)

// Kinds of tokens.
const (
	ending  = iota // the text has no further one
	word           // its value is its bytes
	quoted         // a string; its value is what its characters and escapes stand for
	opening        // {
	closing        // }
	stop           // ;
)

const (
	firstPlain = 0x20 // the characters below it stand as escapes alone
	deleted    = 0x7f // so does this one
	shortest   = len(`\u{0}`)
	longest    = len(`\u{000000}`)
)

// token: at is the place of its first byte.
type token struct {
	kind  int
	value string
	at    int
}

// fault: what the reading of a text gives up with, by a panic, so that none of its callers but Parse asks.
type fault struct {
	err api.Errno
	at  int
}

func demand(stands bool, err api.Errno, at int) {
	if !stands {
		panic(fault{err, at})
	}
}

// scanner takes tokens off a text; what lies ahead of at is read.
type scanner struct {
	text string
	at   int
}

// next reads a token whole, wherever it stands.
func (s *scanner) next() token {
	s.skip()
	if s.at == len(s.text) {
		return token{kind: ending, at: s.at}
	}
	switch c := s.text[s.at]; {
	case inWord(c):
		return s.word()
	case c == '"':
		return s.quoted()
	case c == '{':
		return s.mark(opening)
	case c == '}':
		return s.mark(closing)
	case c == ';':
		return s.mark(stop)
	}
	panic(fault{api.ErrToken, s.at})
}

// skip goes over blanks and comments.
func (s *scanner) skip() {
	for s.at < len(s.text) {
		switch s.text[s.at] {
		case ' ', '\t', '\n', '\r':
			s.at++
		case '#':
			s.skipLine()
		default:
			return
		}
	}
}

func (s *scanner) skipLine() {
	length := strings.IndexByte(s.text[s.at:], '\n')
	if length < 0 {
		length = len(s.text) - s.at
	}
	s.at += length
}

func (s *scanner) mark(kind int) token {
	s.at++
	return token{kind: kind, at: s.at - 1}
}

func (s *scanner) word() token {
	first := s.at
	for s.at < len(s.text) && inWord(s.text[s.at]) {
		s.at++
	}
	return token{word, s.text[first:s.at], first}
}

func (s *scanner) quoted() token {
	first, inside := s.at, s.at+1
	var content []byte
	escaped := inside // the characters ahead of it belong to an escape that is read
	for i, c := range s.text[inside:] {
		at := inside + i
		switch {
		case at < escaped:
		case c == '"':
			s.at = at + 1
			return token{quoted, string(content), first}
		case c == '\\':
			meant, length := escape(s.text[at:])
			demand(length > 0, api.ErrToken, at)
			content = utf8.AppendRune(content, meant)
			escaped = at + length
		default:
			demand(isPlain(c) && wellFormed(c, s.text[at:]), api.ErrToken, at)
			content = utf8.AppendRune(content, c)
		}
	}
	panic(fault{api.ErrToken, len(s.text)})
}

// escape tells the character that the escape at the front of text stands for, and the escape's length; 0: there is none.
func escape(text string) (rune, int) {
	if len(text) < 2 {
		return 0, 0
	}
	switch text[1] {
	case '"', '\\':
		return rune(text[1]), 2
	case 'n':
		return '\n', 2
	case 't':
		return '\t', 2
	case 'u':
		return escapedNumber(text)
	}
	return 0, 0
}

// escapedNumber is escape for those that begin with \u.
func escapedNumber(text string) (rune, int) {
	length := strings.IndexByte(text, '}') + 1
	if length < shortest || length > longest || text[2] != '{' {
		return 0, 0
	}
	number, err := strconv.ParseUint(text[3:length-1], 16, 32)
	if err != nil || !utf8.ValidRune(rune(number)) {
		return 0, 0
	}
	return rune(number), length
}

// isPlain tells whether a character may stand for itself, as far as it is not one that ends a string or begins an escape.
func isPlain(c rune) bool { return c >= firstPlain && c != deleted }

// wellFormed tells whether c, as a range over the string has it, is what text begins with, and not what it has in place of a byte that begins no character.
func wellFormed(c rune, text string) bool {
	return c != utf8.RuneError || strings.HasPrefix(text, string(utf8.RuneError))
}

func inWord(c byte) bool { return isLetter(c) || isDigit(c) || c == '-' || c == '_' || c == '.' }

func isLetter(c byte) bool { return c >= 'A' && c <= 'Z' || c >= 'a' && c <= 'z' }

func isDigit(c byte) bool { return c >= '0' && c <= '9' }
