package conf

import (
	"fmt"
	"strings"
	"testing"

	"replica/api"
)

const printed = `resource r0 {
  protocol C;
  device {
    blocks 64;
    block-size 128;
    al-slots 4;
  }
  net {
    window 8;
    backlog 256;
    resend 3;
    timeout 20;
    max-epoch-size 16;
    max-queue 32;
    shared-secret "open sesame";
    after-sb-0pri discard-least-changes;
    after-sb-1pri disconnect;
    after-sb-2pri disconnect;
  }
  syncer {
    rate 4;
    burst 8;
    ahead 4;
  }
}
`

// wantChecked holds Check and Print against the model, and what is printed against what Parse reads.
func wantChecked(t *testing.T, c api.Config) {
	t.Helper()
	e, text, err := Check(c), "", api.Errno(0)
	if text, err = Print(c); err != e {
		t.Fatalf("P1203: Print(%+v): %d, Check: %d", c, err, e)
	}
	if !plainCheck(c) {
		if e != api.ErrValue || text != "" {
			t.Fatalf("P1202, P1203: of %+v: Check: %d, Print: %q", c, e, text)
		}
		return
	}
	if e != api.OK {
		t.Fatalf("P1202: Check(%+v): %d", c, e)
	}
	if want := plainPrint(c); text != want {
		t.Fatalf("P1203: Print(%+v): %q, want %q", c, text, want)
	}
	if back, at, e := Parse(text); back != c || at != 0 || e != api.OK {
		t.Fatalf("P1204: Parse(%q): %+v, %d, %d, want %+v", text, back, at, e, c)
	}
}

// P1203: the chapter's text; example 7.
func TestPrintExamples(t *testing.T) {
	if text, e := Print(r0); text != printed || e != api.OK {
		t.Errorf("P1203: Print: %q, %d", text, e)
	}
	c := r0
	c.Secret = "\x22\x5c\x0a\x01\xc3\xa9"
	if text, e := Print(c); e != api.OK || !strings.Contains(text, "    shared-secret \"\\\"\\\\\\n\\u{1}\xc3\xa9\";\n") {
		t.Errorf("P1203: Print of example 7: %q, %d", text, e)
	}
	c.Secret = "\xff"
	if e := Check(c); e != api.ErrValue {
		t.Errorf("P1202: Check of example 7: %d", e)
	}
}

// P1202: each field with every kind of number, one by one and two by two.
func TestCheckFields(t *testing.T) {
	for _, r := range rows {
		if r.field == nil {
			continue
		}
		for _, n := range odd {
			c := r0
			*r.field(&c) = n
			wantChecked(t, c)
			for _, other := range rows {
				if other.field != nil {
					for _, m := range []int{-1, 0, 1, 64, 1000, 1024, 1 << 62} {
						d := c
						*other.field(&d) = m
						wantChecked(t, d)
					}
				}
			}
		}
		for n := range 4100 {
			c := r0
			*r.field(&c) = n
			wantChecked(t, c)
		}
	}
}

// P1202: OK is just what Parse answers for some text: the text with every character of the secret as an escape.
func TestCheckIsParse(t *testing.T) {
	d := dice(5)
	for range 10000 {
		c := rolledConfig(&d)
		secret := ""
		for _, character := range c.Secret {
			secret += fmt.Sprintf(`\u{%x}`, character)
		}
		text := "resource " + c.Name + " { "
		for _, section := range []string{"", "device", "net", "syncer"} {
			body := ""
			for _, r := range rows {
				switch {
				case r.section != section:
				case r.field == nil:
					body += r.key + " \"" + secret + "\"; "
				default:
					body += r.key + " " + valueText(r, *r.field(&c)) + "; "
				}
			}
			if section != "" {
				body = section + " { " + body + "} "
			}
			text += body
		}
		back, _, e := Parse(text + "}")
		if e == api.OK && back != c || (Check(c) == api.OK) != (e == api.OK) {
			t.Fatalf("P1202: of %+v: Check: %d, Parse: %+v, %d", c, Check(c), back, e)
		}
	}
}

// rolledConfig has a Config whose fields are in their domains, or, seldom, beside them.
func rolledConfig(d *dice) api.Config {
	var c api.Config
	for _, r := range rows {
		if r.field != nil {
			*r.field(&c) = r.allowed[d.below(len(r.allowed))]
			if d.below(100) == 0 {
				*r.field(&c) = d.below(5000)
			}
		}
	}
	if d.below(4) > 0 {
		c.Backlog, c.Dead = 1024, 1000
	}
	c.Name = strings.Repeat("ab-_9"[d.below(5):][:1], 1+d.below(32))
	if d.below(4) > 0 {
		c.Name = "N" + c.Name[1:]
	}
	for range d.below(40) {
		c.Secret += laid([]int{d.below(128), d.below(32), d.below(0x800), 0xe000 + d.below(0x100000)}[d.below(4)])
	}
	return c
}

// P1203, P1204: Configs of every kind.
func TestPrintRows(t *testing.T) {
	d := dice(3)
	fine := 0
	for range 15000 {
		c := rolledConfig(&d)
		if plainCheck(c) {
			fine++
		}
		wantChecked(t, c)
	}
	if fine < 4000 {
		t.Errorf("only %d of the Configs can be printed", fine)
	}
}

// P1202, P1203, P1204: each character and each byte in a secret; names with each byte.
func TestPrintSecrets(t *testing.T) {
	c := r0
	for n := range 0x110010 {
		if n > 0x3000 && n%97 != 0 && n&0xffff < 0xfff0 && (n < 0xd7f0 || n > 0xe010) {
			continue
		}
		c.Secret = laid(n)
		wantChecked(t, c)
	}
	for first := range 256 {
		one := string([]byte{byte(first)})
		c.Secret = "a" + one
		wantChecked(t, c)
		for second := range 256 {
			c.Secret = one + string([]byte{byte(second)})
			wantChecked(t, c)
		}
		c.Secret = ""
		for _, name := range []string{one, one + "b", "a" + one, "a" + one + "b"} {
			c.Name = name
			wantChecked(t, c)
		}
		c.Name = "r0"
	}
	for _, secret := range []string{"", "word", "a.b", "1K", "\ufffd", "\ufffd\xff", "\xe2\x82", "\xc0\x80", "\xed\xa0\x80", "\xf4\x90\x80\x80", "\\u{41}", "\"", "\"; }", "# no comment", "\r\n", "\u0080\u00a0\u2028"} {
		c.Secret = secret
		wantChecked(t, c)
	}
	for length := range 70 {
		c.Secret = strings.Repeat("\x1f", length)
		wantChecked(t, c)
		c.Secret = strings.Repeat("s", length%2) + strings.Repeat("\u00e9", length/2)
		wantChecked(t, c)
		c.Secret, c.Name = "", strings.Repeat("n", length)
		wantChecked(t, c)
		c.Name = "r0"
	}
}

// P1202: what goes together, with numbers so great that sums of them wrap round.
func TestCheckTogether(t *testing.T) {
	for _, n := range odd {
		for _, m := range odd {
			c := r0
			c.Dead, c.Resend = n, m
			wantChecked(t, c)
			c = r0
			c.Backlog, c.Epoch = n, m
			wantChecked(t, c)
			c.Queue, c.Ahead = n, m
			wantChecked(t, c)
		}
	}
}

// P1204: what Parse takes can be printed, and stays the same when it is printed once more.
func TestPrintParsed(t *testing.T) {
	for _, text := range samples {
		for at := range len(text) {
			for c := 32; c < 127; c++ {
				read, _, e := Parse(text[:at] + string(rune(c)) + text[at+1:])
				if e != api.OK {
					continue
				}
				first, e := Print(read)
				if e != api.OK {
					t.Fatalf("P1204: Print(%+v): %d", read, e)
				}
				again, _, _ := Parse(first)
				if second, e := Print(again); second != first || e != api.OK {
					t.Fatalf("P1204: printed once more %q is %q, %d", first, second, e)
				}
			}
		}
	}
}
