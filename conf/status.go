package conf

import (
	"math"
	"strconv"
	"strings"

	"replica/api"
)

// part: a field of a Status, and what stands ahead of it in the line.
type part struct {
	lead  string
	shown shown
}

// shown is a field of a Status as the line has it.
type shown interface {
	stands() bool
	print() string
	// take lays into the field what stands at the front of text: its length, true. Else: how far text begins like a value.
	take(text string) (int, bool)
}

// count is a number that is not below 0.
type count struct{ field *int }

func partsOf(s *api.Status) []part {
	roles := []named{{"Secondary", api.Secondary}, {"Primary", api.Primary}}
	disks := []named{{"Inconsistent", api.Inconsistent}, {"Outdated", api.Outdated}, {"UpToDate", api.UpToDate}}
	return []part{
		{"cs:", choice{&s.Conn, connections()}},
		{" ro:", choice{&s.Role, roles}},
		{"/", choice{&s.Peer, append(roles[:2:2], named{"Unknown", api.NoRole})}},
		{" ds:", choice{&s.Disk, disks}},
		{"/", choice{&s.Pdsk, append(disks[:3:3], named{"DUnknown", api.NoDisk})}},
		{" ", choice{&s.Protocol, protocols()}},
		{" ns:", count{&s.Sent}},
		{" nr:", count{&s.Received}},
		{" dw:", count{&s.Written}},
		{" dr:", count{&s.Read}},
		{" al:", count{&s.Logged}},
		{" ap:", count{&s.Pending}},
		{" ua:", count{&s.Unacked}},
		{" ep:", count{&s.Epochs}},
		{" oos:", count{&s.OutOfSync}},
	}
}

func connections() []named {
	return []named{
		{"StandAlone", api.StandAlone}, {"Connecting", api.Connecting}, {"Greeting", api.Greeting}, {"Connected", api.Connected},
		{"SyncSource", api.SyncSource}, {"SyncTarget", api.SyncTarget}, {"VerifySource", api.VerifySource}, {"VerifyTarget", api.VerifyTarget},
	}
}

// Status writes a status line.
func Status(s api.Status) (string, api.Errno) {
	line := ""
	for _, p := range partsOf(&s) {
		if !p.shown.stands() {
			return "", api.ErrArg
		}
		line += p.lead + p.shown.print()
	}
	return line, api.OK
}

// ParseStatus reads what Status writes; with an error the place of the first byte that cannot stand there.
func ParseStatus(line string) (api.Status, int, api.Errno) {
	var s api.Status
	at := 0
	for _, p := range partsOf(&s) {
		length, whole := p.take(line[at:])
		at += length
		if !whole {
			return api.Status{}, at, api.ErrStatus
		}
	}
	if at < len(line) {
		return api.Status{}, at, api.ErrStatus
	}
	return s, 0, api.OK
}

// take is that of the value, with what stands ahead of it.
func (p part) take(text string) (int, bool) {
	lead := alike(text, p.lead)
	if lead < len(p.lead) {
		return lead, false
	}
	length, whole := p.shown.take(text[lead:])
	return lead + length, whole
}

// take leans on this: no name begins like another one that ends there.
func (c choice) take(text string) (int, bool) {
	far := 0
	for _, one := range c.names {
		if strings.HasPrefix(text, one.name) {
			*c.field = one.number
			return len(one.name), true
		}
		far = max(far, alike(text, one.name))
	}
	return far, false
}

func (n count) stands() bool { return *n.field >= 0 }

func (n count) print() string { return strconv.Itoa(*n.field) }

// take goes on up to a byte that is no digit, or is one that no number has there: it is what follows the number that can't stand there then.
func (n count) take(text string) (int, bool) {
	value, length := 0, 0
	for length < len(text) && isDigit(text[length]) {
		digit := int(text[length] - '0')
		if length > 0 && value == 0 || value > (math.MaxInt-digit)/10 {
			break
		}
		value = 10*value + digit
		length++
	}
	*n.field = value
	return length, length > 0
}

// alike tells how many bytes two texts have in common from their beginnings on.
func alike(a string, b string) int {
	length := 0
	for length < min(len(a), len(b)) && a[length] == b[length] {
		length++
	}
	return length
}
