package digest

import (
	"strings"
	"testing"

	"replica/api"
)

func TestHexOrder(t *testing.T) {
	var sum [32]byte
	for i := range sum {
		sum[i] = byte(i)*8 + 1
	}
	want := "0109111921293139414951596169717981899199a1a9b1b9c1c9d1d9e1e9f1f9"
	if got := Hex(sum); got != want {
		t.Errorf("P106: Hex = %s, want %s", got, want)
	}
}

// Each value stands once at each end of the digest.
func TestHexEachByte(t *testing.T) {
	const digits = "0123456789abcdef"
	for b := range 256 {
		sum := [32]byte{0: byte(b), 31: byte(b)}
		pair := digits[b/16:b/16+1] + digits[b%16:b%16+1]
		want := pair + strings.Repeat("00", 30) + pair
		if got := Hex(sum); got != want {
			t.Errorf("P106: Hex = %s, want %s", got, want)
		}
		for _, s := range []string{want, strings.ToUpper(want)} {
			if got, err := Unhex(s); got != sum || err != api.OK {
				t.Errorf("P106: Unhex(%q) = %x, %d", s, got, err)
			}
		}
	}
}

func TestUnhexCapitals(t *testing.T) {
	if got, err := Unhex(strings.ToUpper(hexOfNothing)); got != Sum256(nil) || err != api.OK {
		t.Errorf("P106: of capital letters: %x, %d", got, err)
	}
	if got, err := Unhex(hexOfNothing[:30] + strings.ToUpper(hexOfNothing[30:])); got != Sum256(nil) || err != api.OK {
		t.Errorf("P106: of letters of both kinds: %x, %d", got, err)
	}
}

func TestUnhexWrongLength(t *testing.T) {
	for n := range 130 {
		s := strings.Repeat("a", n)
		got, err := Unhex(s)
		if n == 64 {
			if err != api.OK {
				t.Errorf("P106: 64 digits: %d", err)
			}
		} else if got != [32]byte{} || err != api.ErrHex {
			t.Errorf("P106: %d digits: %x, %d", n, got, err)
		}
	}
}

// Every byte at every place: just the 22 digits may stand there.
func TestUnhexEveryByte(t *testing.T) {
	for b := range 256 {
		digit := strings.IndexByte("0123456789abcdefABCDEF", byte(b)) >= 0
		for place := range 64 {
			s := hexOfAbc[:place] + string([]byte{byte(b)}) + hexOfAbc[place+1:]
			got, err := Unhex(s)
			if digit && (err != api.OK || Hex(got) != strings.ToLower(s)) {
				t.Errorf("P106: Unhex(%q) = %x, %d", s, got, err)
			}
			if !digit && (got != [32]byte{} || err != api.ErrHex) {
				t.Errorf("P106: Unhex(%q) = %x, %d", s, got, err)
			}
		}
	}
}

// 64 bytes of many-byte runes, 64 runes of more bytes, bytes that are no text at all.
func TestUnhexOddTexts(t *testing.T) {
	for _, s := range []string{
		"", strings.Repeat("\u00e9", 32), strings.Repeat("\uff11", 64), strings.Repeat("\xff", 64), strings.Repeat("\x00", 64),
		"0x" + hexOfAbc[2:], " " + hexOfAbc, hexOfAbc + "\n", "+" + hexOfAbc[1:],
	} {
		if got, err := Unhex(s); got != [32]byte{} || err != api.ErrHex {
			t.Errorf("P106: Unhex(%q) = %x, %d", s, got, err)
		}
	}
}
