package conf

import (
	"math"
	"strings"
	"testing"

	"replica/api"
)

// s8 and line8: example 8.
var s8 = api.Status{Conn: api.Connected, Role: api.Primary, Peer: api.Secondary, Disk: api.UpToDate, Pdsk: api.UpToDate, Protocol: api.ProtoC, Sent: 12, Written: 12, Read: 3, Logged: 2}

const line8 = "cs:Connected ro:Primary/Secondary ds:UpToDate/UpToDate C ns:12 nr:0 dw:12 dr:3 al:2 ap:0 ua:0 ep:0 oos:0"

// wantStatus holds Status against the model, and what is told against what is read.
func wantStatus(t *testing.T, s api.Status) {
	t.Helper()
	want, err := plainStatus(s)
	line, e := Status(s)
	if line != want || e != err {
		t.Fatalf("P1205: Status(%+v): %q, %d, want %q, %d", s, line, e, want, err)
	}
	if e != api.OK {
		return
	}
	if back, at, e := ParseStatus(line); back != s || at != 0 || e != api.OK {
		t.Fatalf("P1206: ParseStatus(%q): %+v, %d, %d, want %+v", line, back, at, e, s)
	}
}

func wantNoStatus(t *testing.T, line string, place int) {
	t.Helper()
	if s, at, e := ParseStatus(line); s != (api.Status{}) || at != place || e != api.ErrStatus {
		t.Fatalf("P1206: ParseStatus(%q): %+v, %d, %d, want %d, %d", line, s, at, e, place, api.ErrStatus)
	}
}

// wantLine holds ParseStatus against P1206's words, by an onlooker that looks for lines that begin so.
func (o onlooker) wantLine(t *testing.T, line string) {
	t.Helper()
	want, is := plainLine(line)
	if !is {
		wantNoStatus(t, line, o.place(line))
		return
	}
	if s, at, e := ParseStatus(line); s != want || at != 0 || e != api.OK {
		t.Fatalf("P1206: ParseStatus(%q): %+v, %d, %d, want %+v", line, s, at, e, want)
	}
}

// P1205, P1206: examples 8 and 9.
func TestStatusExamples(t *testing.T) {
	if line, e := Status(s8); line != line8 || e != api.OK {
		t.Errorf("P1205: Status: %q, %d", line, e)
	}
	s := s8
	s.Peer = api.NoRole
	if line, e := Status(s); e != api.OK || !strings.Contains(line, " ro:Primary/Unknown ") {
		t.Errorf("P1205: Status: %q, %d", line, e)
	}
	s.Role = api.NoRole
	if line, e := Status(s); line != "" || e != api.ErrArg {
		t.Errorf("P1205: Status: %q, %d", line, e)
	}
	if s, at, e := ParseStatus(line8); s != s8 || at != 0 || e != api.OK {
		t.Errorf("P1206: ParseStatus: %+v, %d, %d", s, at, e)
	}
	wantNoStatus(t, "cs:Connect", 10)
	wantNoStatus(t, "cs:Connectx", 10)
	wantNoStatus(t, "cs:Connected ro:Unknown", 16)
	wantNoStatus(t, strings.Replace(line8, "ns:12", "ns:012", 1), 61)
	wantNoStatus(t, line8+"\n", len(line8))
}

// P1205: all names together; each number beside its bounds.
func TestStatusFields(t *testing.T) {
	var all func(s api.Status, field int)
	all = func(s api.Status, field int) {
		if field == len(ends) {
			wantStatus(t, s)
			return
		}
		for n := ends[field][0] - 1; n <= ends[field][1]+1; n++ {
			*enums(&s)[field] = n
			all(s, field+1)
		}
	}
	all(api.Status{OutOfSync: 7}, 0)
	for i := range ends {
		for _, n := range odd {
			s := s8
			*enums(&s)[i] = n
			wantStatus(t, s)
		}
	}
}

// P1205: each count at every kind of number, alone and with the others.
func TestStatusCounts(t *testing.T) {
	d := dice(9)
	for i := range 9 {
		for _, n := range odd {
			s := s8
			*counts(&s)[i] = n
			wantStatus(t, s)
		}
	}
	for range 5000 {
		s := s8
		for _, field := range counts(&s) {
			*field = odd[d.below(len(odd))]
			if *field < 0 && d.below(20) > 0 {
				*field = -(*field + 1)
			}
		}
		wantStatus(t, s)
	}
}

// lines: status lines that have every name, and numbers of every length.
func lines() []string {
	var all []string
	for n := range 8 {
		s := api.Status{Conn: n, Role: n % 2, Peer: n % 3, Disk: n % 3, Pdsk: n % 4, Protocol: 1 + n%3}
		for i, field := range counts(&s) {
			*field = []int{0, 9, 10, 1234567890, math.MaxInt, math.MaxInt - 7, 922337203685477580, 5}[(n+i)%8]
		}
		line, _ := plainStatus(s)
		all = append(all, line)
	}
	return append(all, line8)
}

// P1206: each byte of a line left out, doubled, or turned into another one, and the line cut off there.
func TestParseStatusBytes(t *testing.T) {
	o := newOnlooker()
	for _, line := range lines() {
		o.wantLine(t, line)
		for at := range len(line) {
			o.wantLine(t, line[:at])
			o.wantLine(t, line[:at]+line[at+1:])
			o.wantLine(t, line[:at]+line[at:at+1]+line[at:])
			for _, c := range []byte(" \n/:018CDeT\xff") {
				o.wantLine(t, line[:at]+string([]byte{c})+line[at+1:])
				o.wantLine(t, line[:at]+string([]byte{c})+line[at:])
			}
		}
		for _, more := range []string{" ", "0", "1", "\n", "\x00", " cs:", "x", line} {
			o.wantLine(t, line+more)
		}
	}
	for c := range 256 {
		o.wantLine(t, string([]byte{byte(c)}))
		o.wantLine(t, line8+string([]byte{byte(c)}))
	}
}

// P1206: names and numbers in places that are not theirs.
func TestParseStatusWords(t *testing.T) {
	o := newOnlooker()
	parts := strings.FieldsFunc(line8, func(c rune) bool { return strings.ContainsRune(" /:", c) })
	others := []string{"", "0", "00", "01", "-1", "+1", "1.", "9223372036854775807", "9223372036854775808", "9223372036854775810", "9999999999999999999", "92233720368547758070", "18446744073709551616", "Sync", "Verify", "Connecte", "Connecting", "connected", "Primary", "Secondary", "Unknown", "DUnknown", "UpToDate", "UpToDateD", "Outdated", "Inconsistent", "A", "B", "a", "AB"}
	at := 0
	for _, one := range parts {
		at += strings.Index(line8[at:], one)
		for _, other := range others {
			o.wantLine(t, line8[:at]+other+line8[at+len(one):])
			o.wantLine(t, line8[:at]+other)
		}
		at += len(one)
	}
}

// P1206: a digit that brings a number above its bound, at each of the nine.
func TestParseStatusBound(t *testing.T) {
	for i := range 9 {
		s := s8
		*counts(&s)[i] = math.MaxInt
		line, _ := Status(s)
		behind := strings.Index(line, "9223372036854775807") + 19
		for digit := '0'; digit <= '9'; digit++ {
			wantNoStatus(t, line[:behind]+string(digit)+line[behind:], behind)
			if digit > '7' {
				wantNoStatus(t, line[:behind-1]+string(digit)+line[behind:], behind-1)
			}
		}
	}
}
