package digest

import (
	"hash/crc32"
	"math/rand"
	"testing"
)

func TestCrcExamples(t *testing.T) {
	cases := []struct {
		p    []byte
		want uint32
	}{
		{[]byte("123456789"), 0xe3069283},
		{nil, 0},
		{[]byte{}, 0},
		{[]byte{0}, 0x527d5351},
		{make([]byte, 32), 0x8a9136aa},
	}
	for _, c := range cases {
		if got := Crc(c.p); got != c.want {
			t.Errorf("P105: Crc(%x) = %08x, want %08x", c.p, got, c.want)
		}
	}
	if got := CrcMore(Crc([]byte("1234")), []byte("56789")); got != 0xe3069283 {
		t.Errorf("P105: CrcMore in two pieces = %08x", got)
	}
}

func TestCrcOfEachByte(t *testing.T) {
	table := crc32.MakeTable(crc32.Castagnoli)
	for b := range 256 {
		p := []byte{byte(b)}
		if got, want := Crc(p), crc32.Checksum(p, table); got != want {
			t.Errorf("P105: Crc(%x) = %08x, want %08x", p, got, want)
		}
	}
}

func TestCrcInPieces(t *testing.T) {
	table := crc32.MakeTable(crc32.Castagnoli)
	p := randomBytes(rand.New(rand.NewSource(105)), 200)
	want := crc32.Checksum(p, table)
	for cut := range len(p) + 1 {
		if got := CrcMore(Crc(p[:cut]), p[cut:]); got != want {
			t.Errorf("P105: cut at %d: %08x, want %08x", cut, got, want)
		}
	}
}

// Any word may be handed in, whether or not it is the sum of something.
func TestCrcMoreOfAnyWord(t *testing.T) {
	table := crc32.MakeTable(crc32.Castagnoli)
	r := rand.New(rand.NewSource(1050))
	p := randomBytes(r, 33)
	for _, word := range []uint32{0, 1, 7, 0x7fffffff, 0x80000000, 0x82f63b78, 0xfffffffe, 0xffffffff, r.Uint32()} {
		if CrcMore(word, nil) != word || CrcMore(word, []byte{}) != word {
			t.Errorf("P105: CrcMore(%08x, nothing) is another word", word)
		}
		if got, want := CrcMore(word, p), crc32.Update(word, table, p); got != want {
			t.Errorf("P105: CrcMore(%08x, ..) = %08x, want %08x", word, got, want)
		}
	}
	if CrcMore(0, p) != Crc(p) {
		t.Error("P105: CrcMore(0, p) is not Crc(p)")
	}
}
