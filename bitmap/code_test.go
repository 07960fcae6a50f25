package bitmap

import (
	"bytes"
	"slices"
	"strconv"
	"strings"
	"testing"

	"replica/api"
)

// spelt is the code by the chapter's words: the digits as a text, then bytes.
func spelt(m model) []byte {
	text := "0"
	if m[0] {
		text = "1"
	}
	for first := 0; first < len(m); {
		end := m.next(first, !m[first])
		if end < 0 {
			end = len(m)
		}
		number := strconv.FormatInt(int64(end-first), 2)
		text += strings.Repeat("0", len(number)-1) + number
		first = end
	}
	for len(text)%8 != 0 {
		text += "0"
	}
	var code []byte
	for ; text != ""; text = text[8:] {
		b, _ := strconv.ParseUint(text[:8], 2, 8)
		code = append(code, byte(b))
	}
	return code
}

func modelOf(n int, word uint64) model {
	m := make(model, n)
	for i := range m {
		m[i] = word>>i&1 == 1
	}
	return m
}

func wantFault(t *testing.T, n int, code []byte, place int) {
	t.Helper()
	words, at, e := Decode(n, code)
	if words != nil || at != place || e != api.ErrCode {
		t.Errorf("Decode(%d, %x): %d words, %d, %d, want the place %d", n, code, len(words), at, e, place)
	}
}

func wantBothWays(t *testing.T, m model) {
	t.Helper()
	words, want := m.words(), spelt(m)
	code, e := Encode(len(m), words)
	if e != api.OK || !bytes.Equal(code, want) {
		t.Fatalf("Encode(%d, %x): %x, %d, want %x", len(m), words, code, e, want)
	}
	back, at, e := Decode(len(m), want)
	if e != api.OK || at != 0 || !slices.Equal(back, words) {
		t.Fatalf("Decode(%d, %x): %x, %d, %d, want %x", len(m), want, back, at, e, words)
	}
}

// P313, P314: examples 5 and 7.
func TestEncode(t *testing.T) {
	for _, x := range []struct {
		n    int
		word uint64
		want []byte
	}{
		{3, 2, []byte{0x70}}, {3, 0, []byte{0x30}}, {3, 7, []byte{0xb0}}, {1, 0, []byte{0x40}}, {1, 1, []byte{0xc0}},
		{64, 0x1ff, []byte{0x89, 0x06, 0xe0}}, {64, 0, []byte{0x01, 0x00}}, {64, 1<<64 - 1, []byte{0x81, 0x00}},
	} {
		code, e := Encode(x.n, []uint64{x.word})
		if e != api.OK || !bytes.Equal(code, x.want) {
			t.Errorf("Encode(%d, %x): %x, %d, want %x", x.n, x.word, code, e, x.want)
		}
		words, at, e := Decode(x.n, x.want)
		if e != api.OK || at != 0 || !slices.Equal(words, []uint64{x.word}) {
			t.Errorf("Decode(%d, %x): %x, %d, %d", x.n, x.want, words, at, e)
		}
	}
}

// P313: what is refused.
func TestEncodeRefuses(t *testing.T) {
	for _, n := range wrongLens {
		for _, words := range [][]uint64{nil, {0}, make([]uint64, 1025)} {
			if code, e := Encode(n, words); code != nil || e != api.ErrArg {
				t.Errorf("Encode(%d) of %d words: %x, %d", n, len(words), code, e)
			}
		}
	}
	for _, x := range wordCases {
		code, e := Encode(x.n, x.words)
		if e != x.want || (code == nil) != (e != api.OK) {
			t.Errorf("Encode(%d, %x): %x, %d, want %d", x.n, x.words, code, e, x.want)
		}
	}
}

// P313, P314: every bitmap of up to 12 bits, and greater ones of all kinds.
func TestBothWays(t *testing.T) {
	for n := 1; n <= 12; n++ {
		for word := range uint64(1) << n {
			wantBothWays(t, modelOf(n, word))
		}
	}
	d := dice(7)
	for _, n := range []int{63, 64, 65, 127, 128, 129, 1000, 4096, 5000, api.MaxBits} {
		m := make(model, n)
		wantBothWays(t, m)
		for range 30 {
			first := d.roll(n)
			m.lay(first, d.roll(min(n-first, 700)+1), d.roll(2) == 0)
		}
		wantBothWays(t, m)
		m.lay(0, n, true)
		wantBothWays(t, m)
		m[n-1] = false
		wantBothWays(t, m)
		m.lay(0, n, false)
		m[n-1] = true
		wantBothWays(t, m)
	}
}

// P313: the longest code, 3n/2 + 1 digits.
func TestLongestCode(t *testing.T) {
	m := make(model, 4096)
	for i := range m {
		m[i] = i%4 < 2
	}
	code, e := Encode(len(m), m.words())
	if e != api.OK || len(code) > (3*len(m)/2+1+7)/8 {
		t.Errorf("%d bytes, %d", len(code), e)
	}
	wantBothWays(t, m)
}

// P314: what is refused, and where; examples 6 and 7.
func TestDecodeRefuses(t *testing.T) {
	for _, n := range wrongLens {
		for _, code := range [][]byte{nil, {0x40}, {0xff, 0xff}} {
			if words, at, e := Decode(n, code); words != nil || at != 0 || e != api.ErrArg {
				t.Errorf("Decode(%d, %x): %x, %d, %d", n, code, words, at, e)
			}
		}
	}
	for _, x := range []struct {
		n     int
		code  []byte
		place int
	}{
		{3, []byte{0x71}, 0}, {3, []byte{0x70, 0}, 1}, {3, nil, 0}, {3, []byte{}, 0}, {3, []byte{0x20}, 0}, {3, []byte{0x10}, 0},
		{64, []byte{0x89, 0x06}, 2}, {64, []byte{0x89, 0x07, 0xe0}, 1}, {64, []byte{0x89}, 1}, {64, nil, 0},
		{64, []byte{0x89, 0x06, 0xe1}, 2}, {64, []byte{0x89, 0x06, 0xe0, 0xff}, 3}, {64, []byte{0x89, 0x06, 0xe0, 0, 0}, 3},
		{7, []byte{0xff, 0}, 1}, {7, []byte{0x7f, 0xff}, 1}, // the code fills its byte whole
		{8, []byte{0xff}, 1}, {8, []byte{0xff, 0x80, 0}, 2}, {8, []byte{0xff, 0x40}, 1}, {8, []byte{0xff, 0xc0}, 1},
		{api.MaxBits, []byte{0, 0, 0, 0, 0}, 2}, {api.MaxBits, []byte{0, 0}, 2}, {api.MaxBits, []byte{0, 0, 0x40, 0, 0x01}, 4},
		{api.MaxBits, []byte{0, 0, 0x40, 0}, 4}, {api.MaxBits, []byte{0, 0, 0x40, 0, 0x40}, 4}, {api.MaxBits, []byte{0, 0, 0x60, 0, 0}, 2},
		{api.MaxBits - 1, []byte{0, 0}, 2}, {api.MaxBits - 1, []byte{0, 0, 0x40}, 2}, {1<<15 - 1, []byte{0, 0}, 1},
	} {
		wantFault(t, x.n, x.code, x.place)
	}
}

// beginnings has the beginnings of the codes of all bitmaps of n bits (1) and the codes themselves (2).
func beginnings(n int) map[string]int {
	out := map[string]int{}
	for word := range uint64(1) << n {
		code := spelt(modelOf(n, word))
		for k := range code {
			if out[string(code[:k])] == 0 {
				out[string(code[:k])] = 1
			}
		}
		out[string(code)] = 2
	}
	return out
}

// wantPlace holds Decode against the place as the chapter defines it.
func wantPlace(t *testing.T, n int, known map[string]int, code []byte) {
	t.Helper()
	if known[string(code)] == 2 {
		if _, at, e := Decode(n, code); at != 0 || e != api.OK {
			t.Fatalf("Decode(%d, %x): %d, %d", n, code, at, e)
		}
		return
	}
	place := len(code)
	for known[string(code[:place])] == 0 {
		place--
	}
	wantFault(t, n, code, place)
}

// P314: every code of up to two bytes, and changed codes of three and more, for all small n.
func TestPlaces(t *testing.T) {
	d := dice(11)
	for n := 1; n <= 14; n++ {
		known := beginnings(n)
		wantPlace(t, n, known, nil)
		for one := range 256 {
			wantPlace(t, n, known, []byte{byte(one)})
			for two := range 256 {
				if n <= 10 || two%7 == one%7 {
					wantPlace(t, n, known, []byte{byte(one), byte(two)})
				}
			}
		}
		for range 3000 {
			code := spelt(modelOf(n, uint64(d.roll(1<<n))))
			code[d.roll(len(code))] ^= 1 << d.roll(8)
			code = append(code, 0x80, 0)[:1+d.roll(len(code)+2)]
			wantPlace(t, n, known, code)
		}
		if t.Failed() {
			t.Fatalf("of %d bits", n)
		}
	}
}

// P315: codes of any bytes; each that is taken is the code of what it gives.
func TestDecodeOfAnything(t *testing.T) {
	d := dice(13)
	for range 20000 {
		n := 1 + d.roll(200)
		code := make([]byte, d.roll(40))
		for i := range code {
			code[i] = byte(d.roll(256) | d.roll(256))
		}
		words, at, e := Decode(n, code)
		if e == api.OK {
			again, _ := Encode(n, words)
			if at != 0 || !bytes.Equal(again, code) {
				t.Fatalf("Decode(%d, %x): %x, whose code is %x", n, code, words, again)
			}
		} else if words != nil || at > len(code) || e != api.ErrCode {
			t.Fatalf("Decode(%d, %x): %x, %d, %d", n, code, words, at, e)
		}
	}
}
