package conf

import (
	"strconv"
	"strings"
	"unicode/utf8"

	"replica/api"
)

const (
	maxDigits = 9
	kilo      = 1024
)

// value is a field of a Config and its domain.
type value interface {
	// read lays into the field what the token says; false: such a token says no value of that kind.
	read(t token) bool
	// stands tells whether what the field has is in its domain.
	stands() bool
	// print tells what the field has as a token.
	print() string
}

// number is one from low to high.
type number struct {
	field     *int
	low, high int
}

// power is a number that is a power of two.
type power struct{ number }

// choice is a number that is told by its name.
type choice struct {
	field *int
	names []named
}

type named struct {
	name   string
	number int
}

// secret is well-formed text.
type secret struct{ field *string }

func (n number) read(t token) bool {
	digits, unit := t.value, 1
	if shorter := strings.TrimRight(digits, "Kk"); len(shorter) == len(digits)-1 {
		digits, unit = shorter, kilo
	}
	count, err := strconv.ParseUint(digits, 10, 32)
	*n.field = int(count) * unit
	return t.kind == word && len(digits) <= maxDigits && err == nil
}

func (n number) stands() bool { return *n.field >= n.low && *n.field <= n.high }

func (n number) print() string { return strconv.Itoa(*n.field) }

func (p power) stands() bool { return p.number.stands() && *p.field&(*p.field-1) == 0 }

func (c choice) read(t token) bool {
	for _, one := range c.names {
		if t.kind == word && t.value == one.name {
			*c.field = one.number
			return true
		}
	}
	return false
}

func (c choice) stands() bool { return c.print() != "" }

// print tells nothing of a number that has no name.
func (c choice) print() string {
	for _, one := range c.names {
		if *c.field == one.number {
			return one.name
		}
	}
	return ""
}

func (s secret) read(t token) bool {
	*s.field = t.value
	return true
}

func (s secret) stands() bool { return len(*s.field) <= api.MaxSecret && utf8.ValidString(*s.field) }

func (s secret) print() string {
	text := `"`
	for _, c := range *s.field {
		text += spelt(c)
	}
	return text + `"`
}

// spelt tells how a character stands in a string.
func spelt(c rune) string {
	switch {
	case c == '"' || c == '\\':
		return `\` + string(c)
	case c == '\n':
		return `\n`
	case c == '\t':
		return `\t`
	case !isPlain(c):
		return `\u{` + strconv.FormatInt(int64(c), 16) + `}`
	}
	return string(c)
}
