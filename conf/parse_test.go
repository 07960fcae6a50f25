package conf

import (
	"fmt"
	"slices"
	"strconv"
	"strings"
	"testing"

	"replica/api"
)

// r0: the resource of the chapter's example 1.
var r0 = api.Config{Name: "r0", Blocks: 64, Size: 128, Slots: 4, Protocol: api.ProtoC, Window: 8, Backlog: 256, Resend: 3, Dead: 20, Epoch: 16, Queue: 32, Secret: "open sesame", Sb0: api.SbLeast, Rate: 4, Burst: 8, Ahead: 4}

const (
	example = `resource r0 { device { blocks 64; block-size 128; } net { shared-secret "open sesame"; after-sb-0pri discard-least-changes; } }`
	// device: what a file needs that is to be taken.
	device = "device { blocks 64; block-size 128; } "
)

// samples: files that are taken, of every kind of token, blank and comment.
var samples = []string{
	example,
	"resource r0 { device { blocks 4K; block-size 0128; } protocol A; }",
	"#x {\r\nresource\tr0{syncer{ahead 4;rate 4;}net{shared-secret a.b;}device{block-size 1k;blocks 64#;\n;}}#",
	"resource A-_9{protocol B;net{timeout 0999;resend 998;shared-secret\"\\\"\\\\\\n\\t\\u{0}\\u{10fFfF}\u00e9\ufffd\u20ac\U0001f600\";backlog 1K;after-sb-1pri consensus;after-sb-2pri disconnect;}\ndevice {\tal-slots 16; blocks 1; block-size 512; }syncer{}}\n# the end \xff\x00",
	"resource r0 {\n  protocol C;\n  device {\n    blocks 64;\n    block-size 128;\n    al-slots 4;\n  }\n  net {\n    window 8;\n    max-epoch-size 16;\n    max-queue 32;\n    after-sb-0pri discard-node-1;\n  }\n  syncer {\n    rate 4;\n    burst 1024;\n    ahead 24;\n  }\n}\n",
}

func wantTaken(t *testing.T, text string, want api.Config) {
	t.Helper()
	if c, at, e := Parse(text); c != want || at != 0 || e != api.OK {
		t.Errorf("P1201: Parse(%q): %+v, %d, %d, want %+v", text, c, at, e, want)
	}
}

func wantRefused(t *testing.T, text string, place int, want api.Errno) {
	t.Helper()
	if c, at, e := Parse(text); c != (api.Config{}) || at != place || e != want {
		t.Errorf("P1201: Parse(%q): %+v, %d, %d, want %d, %d", text, c, at, e, place, want)
	}
}

// wantAlike holds Parse against P1201 as the machine of plain_test.go reads it.
func wantAlike(t *testing.T, text string) {
	t.Helper()
	want, place, err := plainParse(text)
	if c, at, e := Parse(text); c != want || at != place || e != err {
		t.Fatalf("P1201: Parse(%q): %+v, %d, %d, want %+v, %d, %d", text, c, at, e, want, place, err)
	}
}

// P1201: examples 1 and 2, and that the samples are taken as the machine takes them.
func TestParseTaken(t *testing.T) {
	wantTaken(t, example, r0)
	small := plainDefaults()
	small.Name, small.Blocks, small.Size, small.Protocol = "r0", 4096, 128, api.ProtoA
	wantTaken(t, samples[1], small)
	for _, text := range samples {
		if _, at, e := Parse(text); at != 0 || e != api.OK {
			t.Errorf("P1201: Parse(%q): %d, %d", text, at, e)
		}
		wantAlike(t, text)
	}
}

// P1201: examples 2 to 6.
func TestParseExamples(t *testing.T) {
	net := "resource r0 { net { shared-secret "
	for _, x := range []struct {
		text  string
		place int
		err   api.Errno
	}{
		{"resource r0 { device { blocks 5K; block-size 0128; } protocol A; }", 30, api.ErrValue},
		{"", 0, api.ErrToken},
		{"resource", 8, api.ErrToken},
		{"Resource r0 {}", 0, api.ErrToken},
		{"resource 0r {}", 9, api.ErrValue},
		{`resource "r0" {}`, 9, api.ErrToken},
		{"resource r0 {}", 13, api.ErrMissing},
		{"resource r0 { disk {} }", 14, api.ErrKey},
		{"resource r0 { net { rate 4; } }", 20, api.ErrKey},
		{"resource r0 { net {} net {} }", 21, api.ErrAgain},
		{"resource r0 { protocol D; }", 23, api.ErrValue},
		{"resource r0 { protocol ; }", 23, api.ErrToken},
		{"resource r0 { protocol C }", 25, api.ErrToken},
		{`resource r0 { protocol "C"; }`, 23, api.ErrValue},
		{"resource r0 { protocol C; protocol C; }", 26, api.ErrAgain},
		{"resource r0 { net { resend 20; } device { blocks 1; block-size 128; } }", 70, api.ErrValue},
		{"resource r0 { net { backlog 215; } device { blocks 1; block-size 128; } }", 72, api.ErrValue},
		{net + `"a\qb"; } }`, 36, api.ErrToken},
		{net + `"a\u{d800}"; } }`, 36, api.ErrToken},
		{net + `"a\u{}"; } }`, 36, api.ErrToken},
		{net + `"a\u{110000}"; } }`, 36, api.ErrToken},
		{net + `"ab`, 37, api.ErrToken},
	} {
		wantRefused(t, x.text, x.place, x.err)
	}
	want := r0
	want.Secret, want.Sb0 = "aAb", 0
	wantTaken(t, "resource r0 { "+device+`net { shared-secret "a\u{41}b"; } }`, want)
	want.Secret, want.Resend, want.Dead = "", 20, 21
	wantTaken(t, "resource r0 { net { resend 20; timeout 21; } "+device+"}", want)
	want.Resend, want.Dead, want.Backlog = 3, 20, 216
	wantTaken(t, "resource r0 { net { backlog 216; } "+device+"}", want)
}

// P1201: 4096 bytes are read, of more none is.
func TestParseLong(t *testing.T) {
	for _, fill := range []string{" ", "\n", "#", "# \"\xff\x00"} {
		text := example + strings.Repeat(fill, 4096)
		wantTaken(t, text[:4096], r0)
		wantRefused(t, text[:4097], 0, api.ErrLong)
		wantRefused(t, text, 0, api.ErrLong)
	}
	for _, fill := range []string{"@", "a", "\xff", "\"", "{", " ", "#"} {
		wantAlike(t, strings.Repeat(fill, 4096))
		wantRefused(t, strings.Repeat(fill, 4097), 0, api.ErrLong)
		wantRefused(t, strings.Repeat(fill, 1<<20), 0, api.ErrLong)
	}
	wantRefused(t, "resource r0 { net { shared-secret \""+strings.Repeat("a", 4096-35), 4096, api.ErrToken)
}

// P1201: a text that ends too early, at each byte.
func TestParseBeginnings(t *testing.T) {
	for _, text := range samples {
		for at := range len(text) {
			wantAlike(t, text[:at])
		}
	}
}

// P1201: each byte of a file turned into others (in one of the files into every other one), left out, doubled, or with another ahead of it.
func TestParseBytes(t *testing.T) {
	for i, text := range samples {
		step := 13
		if i == 3 {
			step = 1
		}
		for at := range len(text) {
			wantAlike(t, text[:at]+text[at+1:])
			wantAlike(t, text[:at]+text[at:at+1]+text[at:])
			for c := at % step; c < 256; c += step {
				wantAlike(t, text[:at]+string([]byte{byte(c)})+text[at+1:])
			}
			for _, more := range []string{" ", "#", "\"", "{", "}", ";", "\\", "K", "0", "\x00", "\x7f", "\xc3", "\xe2\x82", "\u00e9", "#\n", "\"\"", "\\u{41}"} {
				wantAlike(t, text[:at]+more+text[at:])
			}
		}
	}
}

// pieces takes a file that is taken apart into its tokens' own bytes.
func pieces(text string) []string {
	var all []string
	for at := 0; ; {
		p, behind := plainPiece(text, at)
		if p.kind == 0 {
			return all
		}
		all = append(all, text[p.at:behind])
		at = behind
	}
}

// strange: tokens to put into a file, and what is none.
var strange = []string{"resource", "r0", "protocol", "device", "net", "syncer", "blocks", "block-size", "timeout", "shared-secret", "rate", "after-sb-1pri", "Net", "A", "4", "128", "1K", "0", "disconnect", "x", "{", "}", ";", `"s"`, `""`, `"128"`, `"\u{41}"`, `"\q"`, `"`, "@", "\xff", "\u00e9", "#", ".", "-"}

// P1201: rows of tokens: each one of a file left out, doubled, changed for or followed by another.
func TestParseTokens(t *testing.T) {
	for _, text := range samples {
		all := pieces(text)
		for i := range all {
			row := func(middle ...string) { wantAlike(t, strings.Join(slices.Concat(all[:i], middle, all[i+1:]), " ")) }
			row()
			row(all[i], all[i])
			for _, other := range strange {
				row(other)
				row(all[i], other)
			}
		}
	}
}

// P1201: rows of tokens with many changes, set apart by blanks and comments of every kind, or by nothing.
func TestParseRows(t *testing.T) {
	d := dice(12)
	between := []string{" ", " ", " ", "\n", "\t\r", "", "# \"\n", "#}\n\n", " \v", "\u00a0"}
	for range 25000 {
		all := slices.Clone(pieces(samples[d.below(len(samples))]))
		for range d.below(4) {
			i, k := d.below(len(all)), d.below(len(all))
			switch d.below(4) {
			case 0:
				all[i], all[k] = all[k], all[i]
			case 1:
				all[i] = strange[d.below(len(strange))]
			case 2:
				all = slices.Delete(all, min(i, k), min(i, k)+1)
			case 3:
				first, last := min(i, k), max(i, k)
				all = slices.Insert(all, last, slices.Clone(all[first:last])...)
			}
			if len(all) == 0 {
				all = []string{"x"}
			}
		}
		kinds := 2 + d.below(len(between)-1)
		text := ""
		for _, one := range all {
			text += one + between[d.below(kinds)]
		}
		wantAlike(t, text)
	}
}

// file writes a file with one key, and what has to be there.
func file(section, key, value string) string {
	line := key + " " + value + "; "
	switch {
	case section == "":
		return "resource r0 { " + device + line + "}"
	case key == "blocks":
		return "resource r0 { device { block-size 128; " + line + "} }"
	case key == "block-size":
		return "resource r0 { device { blocks 64; " + line + "} }"
	case section == "device":
		return "resource r0 { device { blocks 64; block-size 128; " + line + "} }"
	}
	return "resource r0 { " + device + section + " { " + line + "} }"
}

// P1201: each key's number at and beside every bound, in every form that a number has.
func TestParseNumbers(t *testing.T) {
	forms := []string{"%d", "0%d", "%09d", "%010d", "-%d", "+%d", "%d.", "%d_", "_%d", "0x%d", "%de0", "%dK", "%dk", "%dKK", "%dkK", "%dM", "K%d", "%dK0", "%d K", "\"%d\"", "%08dk", "%09dK", "%010dK"}
	for _, r := range rows {
		for _, n := range odd {
			for _, form := range forms {
				wantAlike(t, file(r.section, r.key, fmt.Sprintf(form, n)))
			}
		}
		for _, one := range []string{"0", "00", "000000000", "999999999", "1000000000", "4294967297", "18446744073709551617", "4194304K", "999999999K", "K", "k", "0K", "", ".", "1.0", "1e3", "0b1", "1_000", "1-", "A", "one", "\u0661", "\"\"", "\"", strings.Repeat("0", 100) + "1"} {
			wantAlike(t, file(r.section, r.key, one))
		}
	}
}

// P1201: each value of each domain is taken, and lies in its field alone.
func TestParseDomains(t *testing.T) {
	for _, r := range rows {
		if r.words != "" {
			continue
		}
		for n := range 4100 {
			text := file(r.section, r.key, strconv.Itoa(n))
			if !slices.Contains(r.allowed, n) {
				wantRefused(t, text, strings.LastIndex(text, " "+strconv.Itoa(n)+";")+1, api.ErrValue)
				continue
			}
			want := r0
			want.Secret, want.Sb0 = "", 0
			*r.field(&want) = n
			if !fits(want) {
				wantRefused(t, text, len(text)-1, api.ErrValue)
				continue
			}
			wantTaken(t, text, want)
		}
	}
}

// P1201: every word at every key that takes words; capital and small letters are told apart.
func TestParseChoices(t *testing.T) {
	all := []string{"a", "b", "c", "D", "AB", "1", "2", "3", "0", "5", "none", "", "disconnec", "disconnects", "discard-node-2", "discard"}
	for _, r := range rows {
		for _, pair := range strings.Fields(r.words) {
			name, _, _ := strings.Cut(pair, "=")
			all = append(all, name, strings.ToUpper(name), strings.ToLower(name), "\""+name+"\"", name+".", name+" "+name)
		}
	}
	for _, r := range rows {
		for _, word := range all {
			wantAlike(t, file(r.section, r.key, word))
		}
		for _, pair := range strings.Fields(r.words) {
			name, number, is := strings.Cut(pair, "=")
			if !is {
				continue
			}
			want := r0
			want.Secret, want.Sb0 = "", 0
			*r.field(&want), _ = strconv.Atoi(number)
			wantTaken(t, file(r.section, r.key, name), want)
		}
	}
}

// P1201: names at and beyond their length, with each byte at each place.
func TestParseNames(t *testing.T) {
	named := func(name string) string { return "resource " + name + " { " + device + "}" }
	for length := range 40 {
		name := strings.Repeat("n", length)
		wantAlike(t, named(name))
		if length >= 1 && length <= 31 {
			want := r0
			want.Name, want.Secret, want.Sb0 = name, "", 0
			wantTaken(t, named(name), want)
		} else if length > 31 {
			wantRefused(t, named(name), 9, api.ErrValue)
		}
	}
	for c := range 256 {
		one := string([]byte{byte(c)})
		for _, name := range []string{one, one + "a", "a" + one, "a" + one + "a"} {
			wantAlike(t, named(name))
		}
	}
	for _, name := range []string{"resource", "protocol", "net", "a.b", "-a", "_a", "9", ".", "a-", "a_", "\u00e9"} {
		wantAlike(t, named(name))
	}
}

func withSecret(token string) string {
	return "resource r0 { " + device + "net { shared-secret " + token + "; } }"
}

// P1201: the secret at and beyond its length in bytes, as a word, as a string, with characters of several bytes and with escapes.
func TestParseSecrets(t *testing.T) {
	at := strings.Index(withSecret("x"), " x;") + 1
	for _, x := range []struct {
		token, value string
		size         int
	}{{"s", "s", 1}, {"\u00e9", "\u00e9", 2}, {"\u20ac", "\u20ac", 3}, {"\U0001f600", "\U0001f600", 4}, {`\n`, "\n", 1}, {`\"`, `"`, 1}, {`\u{e9}`, "\u00e9", 2}, {`\u{0020AC}`, "\u20ac", 3}, {`\u{1F600}`, "\U0001f600", 4}} {
		for count := range 70 {
			text := withSecret("\"" + strings.Repeat(x.token, count) + "\"")
			if count*x.size > 64 {
				wantRefused(t, text, at, api.ErrValue)
				continue
			}
			want := r0
			want.Secret, want.Sb0 = strings.Repeat(x.value, count), 0
			wantTaken(t, text, want)
		}
	}
	for count := range 70 {
		wantAlike(t, withSecret(strings.Repeat("s", count)))
	}
	for _, token := range []string{`""`, "64", "1K", "disconnect", "a.b", "-", `"a" "b"`, "a b", ";", "{", `"a`, `a"`, `"#"`, `"a # b"`, `"{;}"`} {
		wantAlike(t, withSecret(token))
	}
}

// P1201: each character as it is and as an escape of every length.
func TestParseCharacters(t *testing.T) {
	var some []int
	for n := range 0x900 {
		some = append(some, n)
	}
	for _, near := range []int{0x1000, 0xd7ff, 0xd800, 0xdbff, 0xdc00, 0xdfff, 0xe000, 0xfffd, 0xffff, 0x10000, 0x3ffff, 0xfffff, 0x10ffff, 0x110000, 0x13ffff, 0x1fffff, 0xffffff} {
		for n := near - 3; n < near+4; n++ {
			some = append(some, n)
		}
	}
	for _, n := range some {
		if n < 1<<21 {
			wantAlike(t, withSecret("\"a"+laid(n)+"b\""))
		}
		for _, form := range []string{`"a\u{%x}b"`, `"\u{%X}"`, `"\u{%05x}"`, `"\u{%06x}"`, `"\u{%07x}"`, `"\u{%x"`, `"\u%x}"`, `"\u{ %x}"`, `"\u{%x }"`, `"\U{%x}"`, `"\x%x"`, `"\u{+%x}"`, `"\u{0x%x}"`, `"\u{%x_0}"`} {
			wantAlike(t, withSecret(fmt.Sprintf(form, n)))
		}
	}
	for c := range 256 {
		one := string([]byte{byte(c)})
		for _, token := range []string{`"\` + one + `"`, `"\` + one, `"\u` + one + `41}"`, `"\u{` + one + `}"`, `"\u{4` + one + `}"`, `"\u{41` + one + `"`, `"\u{00004` + one + `}"`, `"` + one} {
			wantAlike(t, withSecret(token))
		}
	}
}

// P1201: every row of bytes that might begin a character of several, whole or cut off.
func TestParseSequences(t *testing.T) {
	tails := []byte{0x00, 0x22, 0x41, 0x5c, 0x7f, 0x80, 0x81, 0x8f, 0x90, 0x9f, 0xa0, 0xbd, 0xbf, 0xc0, 0xc2, 0xf0, 0xff}
	for first := 0x80; first < 0x100; first++ {
		for _, second := range tails {
			for _, third := range tails {
				wantAlike(t, withSecret("\"a"+string([]byte{byte(first), second, third})+"\""))
				for _, fourth := range []byte{0x22, 0x80, 0xc0} {
					wantAlike(t, withSecret("\"a"+string([]byte{byte(first), second, third, fourth})+"b\""))
				}
			}
		}
		for _, cut := range []string{"", "\x80", "\xbf\xbf", "\x9f\xbf", "\x8f\xbf\xbf"} {
			wantAlike(t, "resource r0 { net { shared-secret \"a"+string([]byte{byte(first)})+cut)
		}
	}
}

// P1201: a token is read whole ahead of any question, and the question of a value ahead of the next token.
func TestParseOrder(t *testing.T) {
	for _, x := range []struct {
		text  string
		place int
		err   api.Errno
	}{
		{`"resource`, 9, api.ErrToken},
		{`"a\q`, 2, api.ErrToken},
		{"resource \"a\x01\" {}", 11, api.ErrToken},
		{`resource r0 "x`, 14, api.ErrToken},
		{`resource r0 {"`, 14, api.ErrToken},
		{`resource r0 { net "\u{"`, 19, api.ErrToken},
		{`resource r0 { net { "a\`, 22, api.ErrToken},
		{`resource r0 { protocol "C`, 25, api.ErrToken},
		{`resource r0 { protocol "` + strings.Repeat("s", 100) + "\xff", 124, api.ErrToken},
		{`resource r0 { protocol C "\`, 26, api.ErrToken},
		{"resource 0r @", 9, api.ErrValue},
		{"resource r0 { disk @", 14, api.ErrKey},
		{"resource r0 { protocol D @", 23, api.ErrValue},
		{"resource r0 { net {} net @", 21, api.ErrAgain},
		{"resource r0 { } @", 14, api.ErrMissing},
		{"resource r0 { net { resend 20; } device { blocks 1; block-size 128; } } @", 70, api.ErrValue},
		{"resource r0 { device { blocks 1; } net { resend 20; } }", 54, api.ErrMissing},
		{"resource r0 { device { block-size 128; } }", 41, api.ErrMissing},
		{"resource r0 { " + device + "} ;", 54, api.ErrToken},
		{"resource r0 { " + device + `} "x`, 56, api.ErrToken},
		{"resource r0 { " + device + "}}", 53, api.ErrToken},
		{"resource r0 { " + device + "} resource", 54, api.ErrToken},
		{"resource r0 { device device", 21, api.ErrToken},
		{"resource r0 { device { device", 23, api.ErrKey},
		{"resource r0 { device { protocol A; } }", 23, api.ErrKey},
		{"resource r0 { blocks 1; }", 14, api.ErrKey},
		{"resource r0 { net { ; } }", 20, api.ErrToken},
		{"resource r0 { ; }", 14, api.ErrToken},
		{"resource r0 { net {}; }", 20, api.ErrToken},
		{"resource r0 { protocol { } }", 23, api.ErrToken},
		{"resource r0 { net { window 8; window 8; } }", 30, api.ErrAgain},
		{"\xef\xbb\xbfresource r0 {}", 0, api.ErrToken},
	} {
		wantRefused(t, x.text, x.place, x.err)
		wantAlike(t, x.text)
	}
}

// P1201: the parts in every order, the keys in many; what is missing has its value.
func TestParseAnyOrder(t *testing.T) {
	d := dice(7)
	for range 3000 {
		want := plainDefaults()
		want.Name = "r0"
		lines := map[string][]string{}
		for _, i := range shuffled(&d, len(rows)) {
			r := rows[i]
			needed := r.key == "blocks" || r.key == "block-size"
			if r.field == nil || !needed && d.below(2) == 0 {
				continue
			}
			n := r.allowed[d.below(len(r.allowed))]
			*r.field(&want) = n
			lines[r.section] = append(lines[r.section], r.key+" "+valueText(r, n)+";")
		}
		parts := slices.Clone(lines[""])
		for _, section := range []string{"device", "net", "syncer"} {
			if len(lines[section]) > 0 || d.below(2) == 0 {
				parts = append(parts, section+" { "+strings.Join(lines[section], " ")+" }")
			}
		}
		text := "resource r0 {"
		for _, i := range shuffled(&d, len(parts)) {
			text += " " + parts[i]
		}
		if text += " }"; fits(want) {
			wantTaken(t, text, want)
		} else {
			wantRefused(t, text, len(text)-1, api.ErrValue)
		}
	}
}

func shuffled(d *dice, n int) []int {
	order := make([]int, n)
	for i := range order {
		k := d.below(i + 1)
		order[i], order[k] = order[k], i
	}
	return order
}

// valueText writes a number of a key's domain as the key takes it.
func valueText(r row, n int) string {
	for _, pair := range strings.Fields(r.words) {
		if name, number, _ := strings.Cut(pair, "="); number == strconv.Itoa(n) {
			return name
		}
	}
	return strconv.Itoa(n)
}

// P1201: what goes together, at its bound, wherever the numbers come from.
func TestParseTogether(t *testing.T) {
	for _, ahead := range []int{1, 4, 63, 64} {
		for _, queue := range []int{1, 32, 255, 256} {
			for _, epoch := range []int{1, 16, 63, 64} {
				least := 16 + 2*ahead + 2*queue + 8*epoch
				for _, backlog := range []int{1, least - 1, least, least + 1, 1024} {
					text := fmt.Sprintf("resource r0 { "+device+"syncer { ahead %d; } net { backlog %d; max-queue %d; max-epoch-size %d; } }", ahead, backlog, queue, epoch)
					wantAlike(t, text)
					want := r0
					want.Secret, want.Sb0 = "", 0
					want.Ahead, want.Queue, want.Epoch, want.Backlog = ahead, queue, epoch, backlog
					if backlog > 1024 {
						continue
					}
					if backlog >= least {
						wantTaken(t, text, want)
					} else {
						wantRefused(t, text, len(text)-1, api.ErrValue)
					}
				}
			}
		}
	}
	for _, resend := range []int{1, 2, 3, 19, 20, 21, 999, 1000} {
		for _, dead := range []int{1, 2, 3, 4, 19, 20, 21, 999, 1000} {
			text := fmt.Sprintf("resource r0 { net { resend %d; timeout %d; } "+device+"}", resend, dead)
			wantAlike(t, text)
			if dead <= resend {
				wantRefused(t, text, len(text)-1, api.ErrValue)
			}
		}
	}
}
