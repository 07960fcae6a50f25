package dump

import (
	"fmt"
	"slices"
	"strings"
	"testing"

	"replica/api"
)

func wantFault(t *testing.T, text string, place int) {
	t.Helper()
	if m, at, e := Parse(text); !sameDump(m, api.Dump{}) || at != place || e != api.ErrDump {
		t.Errorf("P1903: Parse(%q): %+v, %d, %d, want %d", text, m, at, e, place)
	}
}

// P1903: example 2, and blanks and comments of every kind wherever they may stand.
func TestParseBlanks(t *testing.T) {
	for _, blank := range []string{" ", "\t", "\n", "\r", " \t\r\n", "# x\n", "#\n", "#;seq 7\r\n", "##\n#\n", "#\x00\xff\xc3\n", "#\xe2\x82\n", "#\u00e9\u20ac\U0001f600\ufffd\n", "#A?-\"{\n"} {
		var all, tight string
		for _, word := range wordsOf(printed) {
			all += blank + word
			if tight += word; word != ";" {
				tight += blank
			}
		}
		wantParsed(t, all+blank, example())
		wantParsed(t, tight, example())
		wantParsed(t, printed+strings.TrimSuffix(blank, "\n"), example())
	}
	wantParsed(t, strings.ReplaceAll(printed, "\n", "# x\n"), example())
	wantParsed(t, strings.ReplaceAll(printed, "\n", ""), example())
	for _, blank := range []string{"\v", "\f", "\x00", "\u00a0", "\u2028", "\ufeff", "\xff", "\x85"} {
		wantFault(t, blank+printed, 0)
		wantFault(t, printed+blank, len(printed))
		wantFault(t, strings.Replace(printed, "seq 7", "seq"+blank+"7", 1), len("replica-meta 1;\nseq"))
		wantFault(t, strings.Replace(printed, "seq 7", "seq # "+blank+"\n"+blank, 1), len("replica-meta 1;\nseq # \n"+blank))
	}
}

// P1903: example 3.
func TestParseBeginningExamples(t *testing.T) {
	for text, place := range map[string]int{
		"":                         0,
		" \n":                      2,
		"# ":                       2,
		"replica-meta":             12,
		"replica-meta # 1":         16,
		"replica-meta 2;":          13,
		"replica-meta 01;":         13,
		"replica-meta 1-;":         13,
		"replica-meta 1 1;":        15,
		"replica-meta;":            12,
		"replica-meta1;":           0,
		"Replica-meta 1;":          0,
		"replica_meta 1;":          0,
		";":                        0,
		"replica-meta 1; seq 07;":  20,
		"replica-meta 1; seq 0;":   20,
		"replica-meta 1; seq 3 4;": 22,
		"replica-meta 1; seq 4611686018427387905;":  20,
		"replica-meta 1; seq 9999999999999999999;":  20,
		"replica-meta 1; seq 18446744073709551617;": 20,
		"replica-meta 1; seq 00000000000000000001;": 20,
		"replica-meta 1; seq 4611686018427387904":   39,
		"replica-meta 1; seq 07?":                   20,
		"replica-meta 1; seq 7?":                    21,
	} {
		wantFault(t, text, place)
	}
}

// P1903: example 4, and other words that cannot stand where they are. The fault is at the last of the bytes that at names.
func TestParsePlaces(t *testing.T) {
	for _, x := range []struct{ old, text, at string }{
		{"seq 7", "sequence 7", "sequence"}, {"seq 7", "seq -7", "-7"}, {"seq 7", "seq 7-", "7-"}, {"seq 7", "seq seven", "seven"}, {"seq 7;", "mark 7;", "mark 7;\ndevice"}, {"seq 7;", "seq;", ";\ndevice"}, {"seq 7;", "seq 7;;", ";\ndevice"},
		{"device 8 128 2", "device 0 128 2", "0 128"}, {"device 8 128 2", "device 4097 128 2", "4097"}, {"device 8 128 2", "device 8 0 2", "0 2"}, {"device 8 128 2", "device 8 64 2", "64"}, {"device 8 128 2", "device 8 129 2", "129"}, {"device 8 128 2", "device 8 384 2", "384"}, {"device 8 128 2", "device 8 2048 2", "2048"}, {"device 8 128 2", "device 8 128 0", "0;\ngens"}, {"device 8 128 2", "device 8 128 17", "17"}, {"device 8 128 2", "device 8 128", ";\ngens"}, {"device 8 128 2", "device 8 128 2 2", "2;\ngens"}, {"device 8 128 2", "device 8 0128 2", "0128"},
		{"0000000000000010", "000000000000001A", "000000000000001A"}, {"0000000000000010", "000000000000001g", "000000000000001g"}, {"0000000000000010", "10", "10 0"}, {"0000000000000010", "000000000000010", "000000000000010 "}, {"0000000000000010", "00000000000000010", "00000000000000010"}, {"0000000000000010", "-000000000000010", "-0"}, {"0000000000000010", "0x00000000000010", "0x"}, {"0000000000000010 ", "0000000000000010 ;", ";0"}, {"0000000000000000;", "0000000000000000 0000000000000000;", "0000000000000000;"},
		{"flags consistent primary;", "flags primary consistent;", "consistent;"}, {"flags consistent primary;", "flags consistent consistent;", "consistent;"}, {"flags consistent primary;", "flags crashed crashed;", "crashed;"}, {"flags consistent primary;", "flags consistent discard;", "discard;"}, {"flags consistent primary;", "flags crashed primary;", "primary;"}, {"flags consistent primary;", "flags crashed outdated;", "outdated;"}, {"flags consistent primary;", "flags 5;", "5;\nmark"}, {"flags consistent primary;", "flags Consistent;", "Consistent;"}, {"flags consistent primary;", "flags consistent-primary;", "consistent-primary;"},
		{"mark 2", "mark 9", "9;"}, {"mark 2", "mark", ";\nslots"}, {"mark 2", "mark -", "-;\nslots"}, {"mark 2", "mark 00", "00;\nslots"}, {"mark 2", "mark 2 3", "3;\nslots"},
		{"slots 1 -;", "slots 1;", ";\nbits"}, {"slots 1 -;", "slots;", ";\nbits"}, {"slots 1 -;", "slots 1 2;", "2;\nbits"}, {"slots 1 -;", "slots 1 - -;", "-;\nbits"}, {"slots 1 -;", "slots 1 --;", "--;"}, {"slots 1 -;", "slots 1 -1;", "-1;"}, {"slots 1 -;", "slots 1-;", "1-;"}, {"slots 1 -;", "slots 01 -;", "01 -;"},
		{"bits 2-4 6;", "bits 2-4 5;", "5;"}, {"bits 2-4 6;", "bits 2-4 4;", "4;"}, {"bits 2-4 6;", "bits 2-4 5-7;", "5-7;"}, {"bits 2-4 6;", "bits 2-4 0;", "0;"}, {"bits 2-4 6;", "bits 6 6;", "6;"}, {"bits 2-4 6;", "bits 2-2;", "2-2"}, {"bits 2-4 6;", "bits 4-2;", "4-2"}, {"bits 2-4 6;", "bits 8;", "8;"}, {"bits 2-4 6;", "bits 2-8;", "2-8"}, {"bits 2-4 6;", "bits 8-9;", "8-9"}, {"bits 2-4 6;", "bits 2-;", "2-;"}, {"bits 2-4 6;", "bits -2;", "-2;"}, {"bits 2-4 6;", "bits -;", "-;"}, {"bits 2-4 6;", "bits 2--4;", "2--4"}, {"bits 2-4 6;", "bits 2-4-6;", "2-4-6"}, {"bits 2-4 6;", "bits 02-4;", "02-4"}, {"bits 2-4 6;", "bits 2-04;", "2-04"}, {"bits 2-4 6;", "bits 0-4611686018427387904;", "0-46"}, {"bits 2-4 6;", "bits 0-18446744073709551617;", "0-18"}, {"bits 2-4 6;", "bits 2-4,6;", ",6;"}, {"bits 2-4 6;", "bits 2-4 x;", "x;"},
		{"bits 2-4 6;\n", "bits 2-4 6;\nx", "x"}, {"bits 2-4 6;\n", "bits 2-4 6;;", ";"}, {"bits 2-4 6;\n", "bits 2-4 6;\n# y\n  bits;", "bits;"}, {"bits 2-4 6;\n", "bits 2-4 6; ?", "?"}, {"bits 2-4 6;\n", "bits 2-4 6\n?", "?"},
	} {
		text := strings.Replace(printed, x.old, x.text, 1)
		if text == printed {
			t.Fatalf("%q stands nowhere", x.old)
		}
		wantFault(t, text, strings.LastIndex(text, x.at))
		wantAlike(t, text, map[string]int{})
	}
	for _, seq := range []string{"1", "9", "10", "4611686018427387904", "4611686018427387903", "1000000000000000000"} {
		if !wantAlike(t, strings.Replace(printed, "seq 7", "seq "+seq, 1), map[string]int{}) {
			t.Errorf("P1903: seq %s is refused", seq)
		}
	}
	for _, bits := range []string{"", " 0", " 7", " 0-7", " 0 2 4 6", " 0-1 3-4 6-7", " 1 3 5 7"} {
		if !wantAlike(t, strings.Replace(printed, "bits 2-4 6;", "bits"+bits+";", 1), map[string]int{}) {
			t.Errorf("P1903: the bits %q are refused", bits)
		}
	}
}

// P1903: what is told later does not change an earlier part's bounds, and an earlier fault hides a later one.
func TestParseFirstFault(t *testing.T) {
	words := wordsOf(printed)
	for i := range words {
		for k := i; k < len(words); k++ {
			text, place := "", 0
			for n, word := range words {
				if n == i {
					place = len(text)
				}
				switch n {
				case i:
					text += "X "
				case k:
					text += "? "
				default:
					text += word + " "
				}
			}
			wantFault(t, text, place)
		}
	}
}

// P1903: 65536 bytes are read, of more none is.
func TestParseLong(t *testing.T) {
	for _, fill := range []string{" ", "\n", "#", "# \xff\x00"} {
		text := printed + strings.Repeat(fill, 65536)
		wantParsed(t, text[:65536], example())
		for _, long := range []string{text[:65537], text} {
			if m, at, e := Parse(long); !sameDump(m, api.Dump{}) || at != 0 || e != api.ErrLong {
				t.Errorf("P1903: Parse of %d bytes: %+v, %d, %d", len(long), m, at, e)
			}
		}
	}
	for _, fill := range []string{"?", "a", "\xff", ";", "0", "-", "#"} {
		wantAlike(t, strings.Repeat(fill, 65536), map[string]int{})
		for _, length := range []int{65537, 1 << 20} {
			if m, at, e := Parse(strings.Repeat(fill, length)); !sameDump(m, api.Dump{}) || at != 0 || e != api.ErrLong {
				t.Errorf("P1903: Parse of %d times %q: %+v, %d, %d", length, fill, m, at, e)
			}
		}
	}
	wantFault(t, strings.Repeat(" ", 65535)+"x", 65535)
	wantFault(t, strings.Repeat("\n", 65536), 65536)
	wantFault(t, "replica-meta 1; seq "+strings.Repeat("1", 65516), 20)
	if !wantAlike(t, strings.Repeat("\t", 65536-len(printed))+printed, map[string]int{}) {
		t.Error("P1903: a text as long as may be is refused")
	}
}

func samples() []string {
	d := dice(7)
	texts := []string{printed, strings.ReplaceAll(printed, " ", " # \u20ac\xff;\n")}
	for _, x := range [][3]int{{70, 256, 5}, {1, 1024, 1}, {100, 512, 16}, {300, 128, 9}} {
		text, _ := plainPrint(rolledFor(&d, x[0], x[1], x[2]))
		texts = append(texts, text)
	}
	return texts
}

// P1903: a text that ends too early, at each byte.
func TestParseBeginnings(t *testing.T) {
	for _, text := range samples() {
		for end := range len(text) {
			wantAlike(t, text[:end], map[string]int{})
		}
		wantAlike(t, text, map[string]int{})
	}
}

// P1903: each byte turned into others (in the first text into every other one), left out, doubled, or with another ahead of it.
func TestParseBytes(t *testing.T) {
	ended := map[string]int{}
	for i, text := range samples() {
		for at := range len(text) {
			for c := 0; c < 256; c += 1 + 22*min(i, 1) {
				wantAlike(t, text[:at]+string([]byte{byte(c)})+text[at+1:], ended)
			}
			for _, c := range []string{"", text[at:at+1] + text[at:at+1], ";" + text[at:at+1], " " + text[at:at+1], "-" + text[at:at+1], "0" + text[at:at+1], "#" + text[at:at+1], "\n" + text[at:at+1]} {
				wantAlike(t, text[:at]+c+text[at+1:], ended)
			}
		}
	}
	for part := range 9 {
		if !slices.ContainsFunc(keys(ended), func(key string) bool { return strings.HasPrefix(key, fmt.Sprint("part ", part)) }) {
			t.Errorf("no text gave up in part %d", part)
		}
	}
}

func keys(m map[string]int) []string {
	var all []string
	for key := range m {
		all = append(all, key)
	}
	return all
}

// rolledWord gives a token of any kind, more often one that may stand somewhere.
func rolledWord(d *dice, other []string) string {
	switch d.below(4) {
	case 0:
		return pick(d, other...)
	case 1:
		return fmt.Sprint(pick(d, d.below(20), d.below(5000), 1<<d.below(12)))
	case 2:
		first := d.below(12)
		return fmt.Sprintf("%d-%d", first, pick(d, first, first+1, first+d.below(9), d.below(12)))
	}
	return pick(d, "-", ";", "0", "00", "1", "1-", "-1", "--", "2-3-4", "0000000000000000", "ffffffffffffffff", "fffffffffffffff", "fffffffffffffffg", "4611686018427387904", "4611686018427387905", "18446744073709551616", "consistent", "outdated", "primary", "crashed", "bits", "x", "X", "?", "é", "\xff", "# x\n", "#")
}

// P1903, P1904: rows of tokens: texts of valid dumps with tokens left out, put in, taken from elsewhere, exchanged.
func TestParseRows(t *testing.T) {
	d := dice(11)
	ended, taken := map[string]int{}, 0
	for range 12000 {
		m := rolledFor(&d, pick(&d, 1, 4, 5, 8, 12, 30, 130), pick(&d, 128, 256, 512, 1024), pick(&d, 1, 2, 3, 5, 16))
		text, _ := plainPrint(m)
		row := wordsOf(text)
		for range d.below(3) {
			at := d.below(len(row))
			switch d.below(4) {
			case 0:
				row = slices.Delete(row, at, at+1)
			case 1:
				row = slices.Insert(row, at, rolledWord(&d, row))
			case 2:
				row[at] = rolledWord(&d, row)
			case 3:
				other := d.below(len(row))
				row[at], row[other] = row[other], row[at]
			}
		}
		text = ""
		for _, word := range row {
			text += word
			if d.below(80) > 0 {
				text += pick(&d, " ", "\n", "\t", "\r\n", " # "+word+"\n")
			}
		}
		if wantAlike(t, text, ended) {
			taken++
		}
	}
	if taken < 3000 || len(ended) < 60 {
		t.Errorf("%d texts were taken, the others gave up in %d ways", taken, len(ended))
	}
}
