package conf

import (
	"fmt"
	"math"
	"regexp"
	"slices"
	"strconv"
	"strings"

	"replica/api"
)

// dice: numbers that look like chance and are the same each time.
type dice uint64

func (d *dice) below(n int) int {
	*d = *d*6364136223846793005 + 1442695040888963407
	return int(uint64(*d) >> 33 % uint64(n))
}

// row: a row of the chapter's table. words: what a key takes that takes no number, with their numbers; anything: it takes every word and string.
type row struct {
	section, key string
	field        func(*api.Config) *int
	allowed      []int
	words        string
	missing      int
}

const anything = "anything"

func upTo(high int) []int {
	var all []int
	for n := 1; n <= high; n++ {
		all = append(all, n)
	}
	return all
}

// rows: the chapter's table, in its order.
var rows = []row{
	{"", "protocol", func(c *api.Config) *int { return &c.Protocol }, []int{1, 2, 3}, "A=1 B=2 C=3", 3},
	{"device", "blocks", func(c *api.Config) *int { return &c.Blocks }, upTo(4096), "", 0},
	{"device", "block-size", func(c *api.Config) *int { return &c.Size }, []int{128, 256, 512, 1024}, "", 0},
	{"device", "al-slots", func(c *api.Config) *int { return &c.Slots }, upTo(16), "", 4},
	{"net", "window", func(c *api.Config) *int { return &c.Window }, upTo(64), "", 8},
	{"net", "backlog", func(c *api.Config) *int { return &c.Backlog }, upTo(1024), "", 256},
	{"net", "resend", func(c *api.Config) *int { return &c.Resend }, upTo(1000), "", 3},
	{"net", "timeout", func(c *api.Config) *int { return &c.Dead }, upTo(1000), "", 20},
	{"net", "max-epoch-size", func(c *api.Config) *int { return &c.Epoch }, upTo(64), "", 16},
	{"net", "max-queue", func(c *api.Config) *int { return &c.Queue }, upTo(256), "", 32},
	{"net", "shared-secret", nil, nil, anything, 0},
	{"net", "after-sb-0pri", func(c *api.Config) *int { return &c.Sb0 }, []int{0, 1, 2, 3, 4}, "disconnect=0 discard-zero-changes=1 discard-least-changes=2 discard-node-0=3 discard-node-1=4", 0},
	{"net", "after-sb-1pri", func(c *api.Config) *int { return &c.Sb1 }, []int{0, 5, 6}, "disconnect=0 discard-secondary=5 consensus=6", 0},
	{"net", "after-sb-2pri", func(c *api.Config) *int { return &c.Sb2 }, []int{0}, "disconnect=0", 0},
	{"syncer", "rate", func(c *api.Config) *int { return &c.Rate }, upTo(1024), "", 4},
	{"syncer", "burst", func(c *api.Config) *int { return &c.Burst }, upTo(1024), "", 8},
	{"syncer", "ahead", func(c *api.Config) *int { return &c.Ahead }, upTo(64), "", 4},
}

func rowOf(section, key string) *row {
	for i := range rows {
		if rows[i].section == section && rows[i].key == key {
			return &rows[i]
		}
	}
	return nil
}

// piece: a token, by the first letter of its kind or by the mark it is: w, s, {, }, ;; 0: the end; !: a lexical fault.
type piece struct {
	kind  byte
	value string
	at    int
}

var (
	gaps    = regexp.MustCompile(`^(?:[ \t\n\r]|#[^\n]*)*`)
	words   = regexp.MustCompile(`^[-A-Za-z0-9_.]+`)
	escapes = regexp.MustCompile(`^\\(?:["\\nt]|u\{([0-9A-Fa-f]{1,6})\})`)
	numbers = regexp.MustCompile(`^([0-9]{1,9})([Kk]?)$`)
	names   = regexp.MustCompile(`^[A-Za-z][A-Za-z0-9_-]{0,30}$`)
)

// plainPiece takes the token from a place on: it, and the place behind it.
func plainPiece(text string, at int) (piece, int) {
	at += len(gaps.FindString(text[at:]))
	if at == len(text) {
		return piece{at: at}, at
	}
	if w := words.FindString(text[at:]); w != "" {
		return piece{'w', w, at}, at + len(w)
	}
	switch text[at] {
	case '{', '}', ';':
		return piece{text[at], text[at : at+1], at}, at + 1
	case '"':
		return plainString(text, at)
	}
	return piece{kind: '!', at: at}, at
}

func plainString(text string, first int) (piece, int) {
	value := ""
	for at := first + 1; at < len(text); {
		switch c := text[at]; {
		case c == '"':
			return piece{'s', value, first}, at + 1
		case c == '\\':
			meant, length := plainEscape(text[at:])
			if length == 0 {
				return piece{kind: '!', at: at}, at
			}
			value += meant
			at += length
		default:
			length := formed(text[at:])
			if length == 0 || c < 32 || c == 127 {
				return piece{kind: '!', at: at}, at
			}
			value += text[at : at+length]
			at += length
		}
	}
	return piece{kind: '!', at: len(text)}, len(text)
}

func plainEscape(text string) (string, int) {
	found := escapes.FindStringSubmatch(text)
	switch {
	case found == nil:
		return "", 0
	case found[1] == "":
		return map[byte]string{'"': "\"", '\\': "\\", 'n': "\x0a", 't': "\x09"}[text[1]], 2
	}
	n, _ := strconv.ParseInt(found[1], 16, 64)
	if n > 0x10ffff || n >= 0xd800 && n <= 0xdfff {
		return "", 0
	}
	return laid(int(n)), len(found[0])
}

// laid writes a character in UTF-8, bit by bit.
func laid(n int) string {
	tail := func(shift int) byte { return byte(0x80 | n>>shift&0x3f) }
	switch {
	case n < 0x80:
		return string([]byte{byte(n)})
	case n < 0x800:
		return string([]byte{byte(0xc0 | n>>6), tail(0)})
	case n < 0x10000:
		return string([]byte{byte(0xe0 | n>>12), tail(6), tail(0)})
	}
	return string([]byte{byte(0xf0 | n>>18), tail(12), tail(6), tail(0)})
}

// formed tells the length of the well-formed character that text begins with; 0: it begins with none.
func formed(text string) int {
	for length := 1; length <= min(4, len(text)); length++ {
		n := 0
		for i := range length {
			n = n<<6 | int(text[i])&0x3f
		}
		if length > 1 {
			n &= 1<<[]int{0, 0, 11, 16, 21}[length] - 1
		} else {
			n = int(text[0])
		}
		if n <= 0x10ffff && (n < 0xd800 || n > 0xdfff) && laid(n) == text[:length] {
			return length
		}
	}
	return 0
}

// plainValue reads a value of a key: a number, or a text.
func plainValue(r *row, p piece) (int, string, bool) {
	if r.words == anything {
		return 0, p.value, len(p.value) <= 64
	}
	if p.kind != 'w' {
		return 0, "", false
	}
	if r.words != "" {
		for _, pair := range strings.Fields(r.words) {
			if name, n, _ := strings.Cut(pair, "="); name == p.value {
				return int(n[0] - '0'), "", true
			}
		}
		return 0, "", false
	}
	found := numbers.FindStringSubmatch(p.value)
	if found == nil {
		return 0, "", false
	}
	n, _ := strconv.Atoi(found[1])
	if found[2] != "" {
		n *= 1024
	}
	return n, "", slices.Contains(r.allowed, n)
}

func fits(c api.Config) bool {
	return c.Dead > c.Resend && c.Backlog-16 >= c.Ahead+c.Ahead+c.Queue+c.Queue+8*c.Epoch
}

func plainDefaults() api.Config {
	var c api.Config
	for _, r := range rows {
		if r.field != nil {
			*r.field(&c) = r.missing
		}
	}
	return c
}

// plain: P1201's reading as a machine whose state is what is wanted next.
type plain struct {
	want    string // resource, name, {, part, key, value, ;, nothing
	section string
	row     *row
	stood   []string
	c       api.Config
}

func plainParse(text string) (api.Config, int, api.Errno) {
	if len(text) > 4096 {
		return api.Config{}, 0, api.ErrLong
	}
	m := plain{want: "resource", c: plainDefaults()}
	for at := 0; ; {
		p, behind := plainPiece(text, at)
		if p.kind == 0 && m.want == "nothing" {
			return m.c, 0, api.OK
		}
		if e := m.take(p); e != api.OK {
			return api.Config{}, p.at, e
		}
		at = behind
	}
}

func (m *plain) take(p piece) api.Errno {
	taken := map[string]string{"resource": "w", "name": "w", "{": "{", "part": "w}", "key": "w}", "value": "ws", ";": ";"}[m.want]
	if !strings.Contains(taken, string(rune(p.kind))) || m.want == "resource" && p.value != "resource" {
		return api.ErrToken
	}
	switch m.want {
	case "resource":
		m.want = "name"
	case "name":
		m.want, m.c.Name = "{", p.value
		if !names.MatchString(p.value) {
			return api.ErrValue
		}
	case "{":
		m.want = "part"
		if m.section != "" {
			m.want = "key"
		}
	case "part", "key":
		return m.takeKey(p)
	case "value":
		return m.takeValue(p)
	case ";":
		m.want = "part"
		if m.section != "" {
			m.want = "key"
		}
	}
	return api.OK
}

func (m *plain) takeKey(p piece) api.Errno {
	full := m.section + " " + p.value
	m.row = rowOf(m.section, p.value)
	opens := m.section == "" && slices.Contains([]string{"device", "net", "syncer"}, p.value)
	switch {
	case p.kind == '}' && m.section != "":
		m.section, m.want = "", "part"
	case p.kind == '}':
		m.want = "nothing"
		if !slices.Contains(m.stood, "device blocks") || !slices.Contains(m.stood, "device block-size") {
			return api.ErrMissing
		}
		if !fits(m.c) {
			return api.ErrValue
		}
	case m.row == nil && !opens:
		return api.ErrKey
	case slices.Contains(m.stood, full):
		return api.ErrAgain
	case opens:
		m.stood = append(m.stood, full)
		m.section, m.want = p.value, "{"
	default:
		m.stood = append(m.stood, full)
		m.want = "value"
	}
	return api.OK
}

func (m *plain) takeValue(p piece) api.Errno {
	n, text, ok := plainValue(m.row, p)
	if !ok {
		return api.ErrValue
	}
	if m.row.field == nil {
		m.c.Secret = text
	} else {
		*m.row.field(&m.c) = n
	}
	m.want = ";"
	return api.OK
}

// plainCheck: P1202, field by field.
func plainCheck(c api.Config) bool {
	for _, r := range rows {
		if r.field != nil && !slices.Contains(r.allowed, *r.field(&c)) {
			return false
		}
	}
	for rest := c.Secret; rest != ""; {
		length := formed(rest)
		if length == 0 {
			return false
		}
		rest = rest[length:]
	}
	return names.MatchString(c.Name) && len(c.Secret) <= 64 && fits(c)
}

// plainPrint: P1203's text of a Config that may be printed.
func plainPrint(c api.Config) string {
	none := []string{"disconnect", "discard-zero-changes", "discard-least-changes", "discard-node-0", "discard-node-1"}
	one := map[int]string{0: "disconnect", 5: "discard-secondary", 6: "consensus"}
	device := fmt.Sprintf("  device {\n    blocks %d;\n    block-size %d;\n    al-slots %d;\n  }\n", c.Blocks, c.Size, c.Slots)
	net := fmt.Sprintf("  net {\n    window %d;\n    backlog %d;\n    resend %d;\n    timeout %d;\n    max-epoch-size %d;\n    max-queue %d;\n", c.Window, c.Backlog, c.Resend, c.Dead, c.Epoch, c.Queue)
	net += "    shared-secret \"" + plainSecret(c.Secret) + "\";\n"
	net += fmt.Sprintf("    after-sb-0pri %s;\n    after-sb-1pri %s;\n    after-sb-2pri disconnect;\n  }\n", none[c.Sb0], one[c.Sb1])
	syncer := fmt.Sprintf("  syncer {\n    rate %d;\n    burst %d;\n    ahead %d;\n  }\n", c.Rate, c.Burst, c.Ahead)
	return fmt.Sprintf("resource %s {\n  protocol %c;\n%s}\n", c.Name, 'A'+c.Protocol-1, device+net+syncer)
}

// plainSecret goes by bytes: those of characters of several stand as they are.
func plainSecret(secret string) string {
	text := ""
	for i := range len(secret) {
		switch c := secret[i]; {
		case c == '"':
			text += "\\\""
		case c == '\\':
			text += "\\\\"
		case c == 10:
			text += "\\n"
		case c == 9:
			text += "\\t"
		case c < 32 || c == 127:
			text += fmt.Sprintf("\\u{%x}", c)
		default:
			text += secret[i : i+1]
		}
	}
	return text
}

// The names of the status line, by their numbers.
var (
	connNames = []string{"StandAlone", "Connecting", "Greeting", "Connected", "SyncSource", "SyncTarget", "VerifySource", "VerifyTarget"}
	roleNames = []string{"Secondary", "Primary", "Unknown"}
	diskNames = []string{"Inconsistent", "Outdated", "UpToDate", "DUnknown"}
)

// enums: the fields of a Status that are told by names.
func enums(s *api.Status) []*int {
	return []*int{&s.Conn, &s.Role, &s.Peer, &s.Disk, &s.Pdsk, &s.Protocol}
}

// ends: the least and the greatest value of each of these.
var ends = [][2]int{{0, 7}, {0, 1}, {0, 2}, {0, 2}, {0, 3}, {1, 3}}

func counts(s *api.Status) []*int {
	return []*int{&s.Sent, &s.Received, &s.Written, &s.Read, &s.Logged, &s.Pending, &s.Unacked, &s.Epochs, &s.OutOfSync}
}

// plainStatus: P1205.
func plainStatus(s api.Status) (string, api.Errno) {
	for i, field := range enums(&s) {
		if *field < ends[i][0] || *field > ends[i][1] {
			return "", api.ErrArg
		}
	}
	for _, field := range counts(&s) {
		if *field < 0 {
			return "", api.ErrArg
		}
	}
	return fmt.Sprintf("cs:%s ro:%s/%s ds:%s/%s %c ns:%d nr:%d dw:%d dr:%d al:%d ap:%d ua:%d ep:%d oos:%d",
		connNames[s.Conn], roleNames[s.Role], roleNames[s.Peer], diskNames[s.Disk], diskNames[s.Pdsk], 'A'+s.Protocol-1,
		s.Sent, s.Received, s.Written, s.Read, s.Logged, s.Pending, s.Unacked, s.Epochs, s.OutOfSync), api.OK
}

var statusLine = regexp.MustCompile(`\Acs:(\w+) ro:(Secondary|Primary)/(\w+) ds:(\w+)/(\w+) ([ABC]) ns:(\d+) nr:(\d+) dw:(\d+) dr:(\d+) al:(\d+) ap:(\d+) ua:(\d+) ep:(\d+) oos:(\d+)\z`)

// plainLine reads a line by guessing its Status and telling that one anew; false: no Status has that line.
func plainLine(line string) (api.Status, bool) {
	found := statusLine.FindStringSubmatch(line)
	if found == nil {
		return api.Status{}, false
	}
	var s api.Status
	s.Conn = slices.Index(connNames, found[1])
	s.Role, s.Peer = slices.Index(roleNames, found[2]), slices.Index(roleNames, found[3])
	s.Disk, s.Pdsk = slices.Index(diskNames, found[4]), slices.Index(diskNames, found[5])
	s.Protocol = int(found[6][0]-'A') + 1
	for i, field := range counts(&s) {
		n, err := strconv.ParseInt(found[7+i], 10, 64)
		if err != nil {
			return api.Status{}, false
		}
		*field = int(n)
	}
	told, _ := plainStatus(s)
	return s, told == line
}

// onlooker says of a text whether some status line begins so, by looking for one; it remembers what it found.
type onlooker struct {
	tails map[int][]string // by the number of their spaces: a line has 13 parts
	known map[string]bool
}

// newOnlooker has every end of lines in which each name stands: whatever begins a status line goes on as one of them does.
func newOnlooker() onlooker {
	o := onlooker{map[int][]string{}, map[string]bool{}}
	for i, pair := range ends {
		for n := pair[0]; n <= pair[1]; n++ {
			s := api.Status{Protocol: 1}
			*enums(&s)[i] = n
			line, _ := plainStatus(s)
			for at := range len(line) + 1 {
				spaces := strings.Count(line[at:], " ")
				o.tails[spaces] = append(o.tails[spaces], line[at:])
			}
		}
	}
	for spaces, tails := range o.tails {
		slices.Sort(tails)
		o.tails[spaces] = slices.Compact(tails)
	}
	return o
}

func (o onlooker) begins(text string) bool {
	found, ok := o.known[text]
	if !ok {
		found = slices.ContainsFunc(o.tails[12-strings.Count(text, " ")], func(tail string) bool {
			_, is := plainLine(text + tail)
			return is
		})
		o.known[text] = found
	}
	return found
}

// place: P1206, to the letter.
func (o onlooker) place(line string) int {
	for at := range len(line) {
		if !o.begins(line[:at+1]) {
			return at
		}
	}
	return len(line)
}

// odd: numbers of every kind.
var odd = []int{math.MinInt, math.MinInt + 1, -1 << 40, -1<<32 + 3, -129, -128, -65, -2, -1, 0, 1, 2, 3, 4, 5, 6, 7, 8, 9, 15, 16, 17, 31, 32, 63, 64, 65, 127, 128, 129, 255, 256, 257, 384, 511, 512, 513, 640, 999, 1000, 1001, 1023, 1024, 1025, 2048, 4095, 4096, 4097, 8192, 1 << 31, 1<<32 + 1, 1<<32 + 128, 1 << 62, math.MaxInt - 1, math.MaxInt}
