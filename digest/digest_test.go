package digest

import (
	"bytes"
	"crypto/hmac"
	"crypto/sha256"
	"math/rand"
	"testing"
)

const (
	hexOfNothing = "e3b0c44298fc1c149afbf4c8996fb92427ae41e4649b934ca495991b7852b855"
	hexOfAbc     = "ba7816bf8f01cfea414140de5dae2223b00361a396177a9cb410ff61f20015ad"
)

// randomBytes gives n bytes that hang on the source's seed alone.
func randomBytes(r *rand.Rand, n int) []byte {
	p := make([]byte, n)
	r.Read(p)
	return p
}

func TestSum256Examples(t *testing.T) {
	cases := []struct{ message, want string }{
		{"", hexOfNothing},
		{"abc", hexOfAbc},
		{"abcdbcdecdefdefgefghfghighijhijkijkljklmklmnlmnomnopnopq", "248d6a61d20638b8e5c026930c3e6039a33ce45964ff2167f6ecedd419db06c1"},
	}
	for _, c := range cases {
		if got := Hex(Sum256([]byte(c.message))); got != c.want {
			t.Errorf("P102: Sum256(%q) = %s, want %s", c.message, got, c.want)
		}
	}
	if got := Hex(Sum256(nil)); got != hexOfNothing {
		t.Errorf("P101, P102: Sum256(nil) = %s", got)
	}
}

// The lengths go over every place at which the padding may begin, the two chunks' edge (55, 56) among them.
func TestSum256EveryLength(t *testing.T) {
	r := rand.New(rand.NewSource(102))
	for n := range 4*chunkSize + 2 {
		p := randomBytes(r, n)
		if got, want := Sum256(p), sha256.Sum256(p); got != want {
			t.Errorf("P102: of %d bytes: %x, want %x", n, got, want)
		}
	}
}

// The number of bits takes the third and the fourth of its bytes too.
func TestSum256Long(t *testing.T) {
	for _, n := range []int{1 << 13, 1<<16 + 3, 1<<21 + 55} {
		p := randomBytes(rand.New(rand.NewSource(int64(n))), n)
		if got, want := Sum256(p), sha256.Sum256(p); got != want {
			t.Errorf("P102: of %d bytes: %x, want %x", n, got, want)
		}
	}
}

// All words at their ends show the wrap modulo 2^32.
func TestSum256Wraps(t *testing.T) {
	for _, b := range []byte{0x00, 0x7f, 0x80, 0xff} {
		p := bytes.Repeat([]byte{b}, 3*chunkSize)
		if got, want := Sum256(p), sha256.Sum256(p); got != want {
			t.Errorf("P102: of bytes %#x: %x, want %x", b, got, want)
		}
	}
}

func TestHashExample(t *testing.T) {
	h := New()
	if h.Sum() != Sum256(nil) || h.Count() != 0 {
		t.Error("P103: New gives a Hash that has something")
	}
	h.Write([]byte("ab"))
	if h.Sum() != Sum256([]byte("ab")) || h.Count() != 2 {
		t.Error("P103: behind ab")
	}
	h.Write([]byte("c"))
	if Hex(h.Sum()) != hexOfAbc || h.Count() != 3 {
		t.Error("P103: behind abc")
	}
	h.Reset()
	if Hex(h.Sum()) != hexOfNothing || h.Count() != 0 {
		t.Error("P103: behind Reset")
	}
	h.Write([]byte("abc"))
	if Hex(h.Sum()) != hexOfAbc || h.Count() != 3 {
		t.Error("P103: a Hash that was reset does not go on as a new one")
	}
}

func TestHashOfNoBytes(t *testing.T) {
	for _, n := range []int{0, 1, 63, 64, 65} {
		h := New()
		h.Write(make([]byte, n))
		before := h.Sum()
		h.Write(nil)
		h.Write([]byte{})
		if h.Sum() != before || h.Count() != uint64(n) {
			t.Errorf("P103: a Write of no bytes behind %d bytes changes something", n)
		}
	}
}

// Every cut of a message into two pieces, with a Sum between them.
func TestHashPieces(t *testing.T) {
	p := randomBytes(rand.New(rand.NewSource(103)), 3*chunkSize)
	want := sha256.Sum256(p)
	for cut := range len(p) + 1 {
		h := New()
		h.Write(p[:cut])
		if h.Sum() != sha256.Sum256(p[:cut]) || h.Count() != uint64(cut) {
			t.Errorf("P103: behind the first %d bytes", cut)
		}
		h.Write(p[cut:])
		if h.Sum() != want || h.Sum() != want || h.Count() != uint64(len(p)) {
			t.Errorf("P103: in two pieces, cut at %d", cut)
		}
	}
}

func TestHashByteByByte(t *testing.T) {
	p := randomBytes(rand.New(rand.NewSource(1030)), 3*chunkSize+1)
	h := New()
	for i := range p {
		h.Write(p[i : i+1])
		if h.Sum() != sha256.Sum256(p[:i+1]) || h.Count() != uint64(i+1) {
			t.Fatalf("P103: behind byte %d", i)
		}
	}
}

func TestResetAtEveryFill(t *testing.T) {
	h := New()
	for n := range 2*chunkSize + 1 {
		h.Write(bytes.Repeat([]byte{0xa5}, n))
		h.Reset()
		if h.Count() != 0 || Hex(h.Sum()) != hexOfNothing {
			t.Fatalf("P103: Reset behind %d bytes", n)
		}
	}
}

func TestHashesAreApart(t *testing.T) {
	g, h := New(), New()
	if g == h {
		t.Fatal("P101: New gives one Hash twice")
	}
	for range 70 {
		g.Write([]byte("g"))
		h.Write([]byte("hh"))
	}
	if g.Sum() != sha256.Sum256(bytes.Repeat([]byte("g"), 70)) || g.Count() != 70 {
		t.Error("P101: the first Hash knows of the second")
	}
	g.Reset()
	if h.Sum() != sha256.Sum256(bytes.Repeat([]byte("h"), 140)) || h.Count() != 140 {
		t.Error("P101: the second Hash knows of the first")
	}
	Sum256([]byte("other"))
	Mac([]byte("key"), []byte("other"))
	if h.Sum() != sha256.Sum256(bytes.Repeat([]byte("h"), 140)) || New().Count() != 0 {
		t.Error("P101: something is kept between the calls")
	}
}

// The list is written over behind each Write: a Hash that kept it would answer otherwise.
func TestWriteKeepsNothing(t *testing.T) {
	for n := range 2*chunkSize + 1 {
		p := randomBytes(rand.New(rand.NewSource(int64(n))), n)
		want := sha256.Sum256(p)
		h := New()
		h.Write(p)
		clear(p)
		if h.Sum() != want {
			t.Errorf("P101: a list of %d bytes that was written over changes the sum", n)
		}
	}
}

// A Sum that is written over is the caller's own.
func TestSumIsNew(t *testing.T) {
	h := New()
	sum := h.Sum()
	clear(sum[:])
	if Hex(h.Sum()) != hexOfNothing {
		t.Error("P101: an answer shares memory with the Hash")
	}
}

func TestMacExamples(t *testing.T) {
	cases := []struct {
		key, message []byte
		want         string
	}{
		{[]byte("Jefe"), []byte("what do ya want for nothing?"), "5bdcc146bf60754e6a042426089575c75a003f089d2739839dec58b964ec3843"},
		{bytes.Repeat([]byte{0x0b}, 20), []byte("Hi There"), "b0344c61d8db38535ca8afceaf0bf12b881dc200c9833da726e9376c2e32cff7"},
		{bytes.Repeat([]byte{0xaa}, 131), []byte("Test Using Larger Than Block-Size Key - Hash Key First"), "60e431591ee0b67f0d8a26aacbf5b77f8e0bc6213728c5140546040f0ee37f54"},
		{nil, nil, "b613679a0814d9ec772f95d778c35fc5ff1697c493715653c6c712144292c5ad"},
	}
	for _, c := range cases {
		if got := Hex(Mac(c.key, c.message)); got != c.want {
			t.Errorf("P104: Mac(%x, %q) = %s, want %s", c.key, c.message, got, c.want)
		}
	}
}

// The keys go over the edge of 64 bytes, behind which a key's digest stands for it.
func TestMacEveryKeyLength(t *testing.T) {
	r := rand.New(rand.NewSource(104))
	for n := range 2*chunkSize + 2 {
		key, message := randomBytes(r, n), randomBytes(r, r.Intn(3*chunkSize))
		own := hmac.New(sha256.New, key)
		own.Write(message)
		if got := Mac(key, message); !bytes.Equal(got[:], own.Sum(nil)) {
			t.Errorf("P104: Mac with a key of %d and a message of %d bytes", n, len(message))
		}
	}
}

func TestMacLongKeyIsItsDigest(t *testing.T) {
	message := []byte("m")
	exact, longer := bytes.Repeat([]byte{7}, chunkSize), bytes.Repeat([]byte{7}, chunkSize+1)
	exactSum, longerSum := Sum256(exact), Sum256(longer)
	if Mac(longer, message) != Mac(longerSum[:], message) {
		t.Error("P104: a key of 65 bytes does not count as its digest")
	}
	if Mac(exact, message) == Mac(exactSum[:], message) {
		t.Error("P104: a key of 64 bytes counts as its digest")
	}
	if Mac([]byte("k"), message) != Mac([]byte("k\x00\x00"), message) {
		t.Error("P104: zero bytes behind a short key change the answer")
	}
}

// guarded gives n random bytes with spare room behind them, and a function that tells whether either was changed.
func guarded(r *rand.Rand, n int) ([]byte, func() bool) {
	whole := randomBytes(r, n+2*chunkSize)
	kept := bytes.Clone(whole)
	return whole[:n], func() bool { return !bytes.Equal(whole, kept) }
}

func TestNothingHandedInIsChanged(t *testing.T) {
	r := rand.New(rand.NewSource(101))
	for n := range 2*chunkSize + 2 {
		p, pChanged := guarded(r, n)
		q, qChanged := guarded(r, r.Intn(3*chunkSize))
		h := New()
		h.Write(p)
		h.Sum()
		Sum256(p)
		Mac(p, q)
		Crc(p)
		CrcMore(1, p)
		if pChanged() || qChanged() {
			t.Fatalf("P101: a list of %d or %d bytes, or its spare room, was changed", n, len(q))
		}
	}
}

// Where key and message share their memory, nothing is written in between.
func TestMacOfSharedMemory(t *testing.T) {
	p := randomBytes(rand.New(rand.NewSource(1040)), 100)
	if Mac(p, p) != Mac(bytes.Clone(p), bytes.Clone(p)) || Mac(p[:50], p[20:]) != Mac(bytes.Clone(p[:50]), bytes.Clone(p[20:])) {
		t.Error("P101, P104: shared memory changes the answer")
	}
}

func TestSameAnswerTwice(t *testing.T) {
	p := []byte("the same bytes")
	if Sum256(p) != Sum256(p) || Mac(p, p) != Mac(p, p) || Crc(p) != Crc(p) {
		t.Error("P2: two calls with one argument answer otherwise")
	}
}
