package dump

import (
	"math"
	"slices"
	"strings"
	"testing"

	"replica/api"
)

// example: the chapter's m, and printed its text.
func example() api.Dump {
	s := api.Super{Seq: 7, Blocks: 8, Size: 128, Slots: 2, Gens: api.Gens{Current: 1024, Bitmap: 16}, Flags: 5, Mark: 2}
	return api.Dump{Super: s, Bits: []uint64{0x5c}, Slots: []int{1, -1}}
}

const printed = `replica-meta 1;
seq 7;
device 8 128 2;
gens 0000000000000400 0000000000000010 0000000000000000 0000000000000000;
flags consistent primary;
mark 2;
slots 1 -;
bits 2-4 6;
`

func wantPrinted(t *testing.T, m api.Dump, want string) {
	t.Helper()
	if text, e := Print(m); text != want || e != api.OK {
		t.Errorf("P1902: Print(%+v): %q, %d, want %q", m, text, e, want)
	}
	wantParsed(t, want, m)
}

func wantNotPrinted(t *testing.T, m api.Dump) {
	t.Helper()
	if plainValid(m) {
		t.Fatalf("%+v is valid", m)
	}
	if text, e := Print(m); text != "" || e != api.ErrField {
		t.Errorf("P1902: Print(%+v): %q, %d", m, text, e)
	}
}

func wantParsed(t *testing.T, text string, want api.Dump) {
	t.Helper()
	if m, at, e := Parse(text); !sameDump(m, want) || at != 0 || e != api.OK {
		t.Errorf("P1903, P1904: Parse(%q): %+v, %d, %d, want %+v", text, m, at, e, want)
	}
}

// wantAlike holds Parse against P1903 as plain_test.go reads it, and what it takes against P1904.
func wantAlike(t *testing.T, text string, ended map[string]int) bool {
	t.Helper()
	want, place, err := plainParse(text, ended)
	m, at, e := Parse(text)
	if !sameDump(m, want) || at != place || e != err {
		t.Fatalf("P1903: Parse(%q): %+v, %d, %d, want %+v, %d, %d", text, m, at, e, want, place, err)
	}
	if e != api.OK {
		return false
	}
	again, e := Print(m)
	if e != api.OK {
		t.Fatalf("P1904: Parse(%q) gives %+v, Print of it %d", text, m, e)
	}
	wantParsed(t, again, m)
	return true
}

// P1902, P1904: the chapter's examples.
func TestPrintExamples(t *testing.T) {
	wantPrinted(t, example(), printed)
	m := example()
	m.Bits = []uint64{0}
	wantPrinted(t, m, strings.Replace(printed, "bits 2-4 6;", "bits;", 1))
	m = example()
	m.Super.Flags = 0
	wantPrinted(t, m, strings.Replace(printed, "flags consistent primary;", "flags;", 1))
	m = example()
	m.Slots = []int{1, 1}
	wantPrinted(t, m, strings.Replace(printed, "slots 1 -;", "slots 1 1;", 1))
}

// P1902, P1904: each set of flags, every slot's and every bit's place, the ends of numbers and identifiers.
func TestPrintEdges(t *testing.T) {
	for flags := range uint32(16) {
		m := example()
		m.Super.Flags = flags
		want, _ := plainPrint(m)
		wantPrinted(t, m, want)
	}
	for bits := range uint64(256) {
		m := example()
		m.Bits[0] = bits
		want, _ := plainPrint(m)
		wantPrinted(t, m, want)
	}
	for _, id := range []uint64{0, 9, 10, 15, 16, 0xabcdef, 0x0123456789abcdef, 0xfedcba9876543210, 1 << 63, math.MaxUint64} {
		m := example()
		m.Super.Gens = api.Gens{Current: id, Bitmap: id + 1, Old1: id + 2, Old2: id + 3}
		want, _ := plainPrint(m)
		wantPrinted(t, m, want)
	}
	for _, seq := range []uint64{1, 9, 10, 1 << 32, 999999999999999999, 1000000000000000000, 1<<62 - 1, 1 << 62} {
		m := example()
		m.Super.Seq = seq
		want, _ := plainPrint(m)
		wantPrinted(t, m, want)
	}
}

// P1902: every second bit of the greatest device, which gives the longest list of runs, and all of them.
func TestPrintLong(t *testing.T) {
	d := dice(3)
	m := rolledFor(&d, 4096, 1024, 16)
	for _, word := range []uint64{0x5555555555555555, 0xaaaaaaaaaaaaaaaa, 0xdb6db6db6db6db6d, 0, math.MaxUint64} {
		m.Bits = slices.Repeat([]uint64{word}, 64)
		m.Super.Seq, m.Super.Flags, m.Super.Mark, m.Slots = 1<<62, 15, 4096, slices.Repeat([]int{1023}, 16)
		want, _ := plainPrint(m)
		if len(want) > 65536 {
			t.Fatalf("P1902: %d bytes", len(want))
		}
		wantPrinted(t, m, want)
	}
	if text, _ := Print(m); !strings.HasSuffix(text, "\nbits 0-4095;\n") {
		t.Errorf("P1902: of all bits %q", text)
	}
}

// P1902, P1904: dumps of every kind.
func TestPrintAgainstModel(t *testing.T) {
	d := dice(5)
	for range 1500 {
		m := rolledDump(&d)
		want, e := plainPrint(m)
		if e != api.OK {
			t.Fatalf("%+v is not valid", m)
		}
		wantPrinted(t, m, want)
	}
}

// breaks: what makes a dump of 8 blocks and 2 slots one that is not valid, each alone.
var breaks = []func(*api.Dump){
	func(m *api.Dump) { m.Super.Seq = 0 },
	func(m *api.Dump) { m.Super.Seq = 1<<62 + 1 },
	func(m *api.Dump) { m.Super.Seq = math.MaxUint64 },
	func(m *api.Dump) { m.Super.Blocks = 0 },
	func(m *api.Dump) { m.Super.Blocks = -8 },
	func(m *api.Dump) { m.Super.Blocks = 4097; m.Bits = make([]uint64, 65) },
	func(m *api.Dump) { m.Super.Blocks = math.MinInt },
	func(m *api.Dump) { m.Super.Blocks = math.MaxInt },
	func(m *api.Dump) { m.Super.Blocks = 65 },
	func(m *api.Dump) { m.Super.Blocks = 6 },
	func(m *api.Dump) { m.Super.Blocks = 4; m.Bits[0] = 0 },
	func(m *api.Dump) { m.Super.Size = 0 },
	func(m *api.Dump) { m.Super.Size = 64 },
	func(m *api.Dump) { m.Super.Size = 129 },
	func(m *api.Dump) { m.Super.Size = 384 },
	func(m *api.Dump) { m.Super.Size = 2048 },
	func(m *api.Dump) { m.Super.Size = -128 },
	func(m *api.Dump) { m.Super.Slots = 0; m.Slots = nil },
	func(m *api.Dump) { m.Super.Slots = 17; m.Slots = make([]int, 17) },
	func(m *api.Dump) { m.Super.Slots = -1; m.Slots = nil },
	func(m *api.Dump) { m.Super.Slots = 3 },
	func(m *api.Dump) { m.Super.Slots = 1 },
	func(m *api.Dump) { m.Super.Flags = 16 },
	func(m *api.Dump) { m.Super.Flags = 1 << 31 },
	func(m *api.Dump) { m.Super.Mark = -1 },
	func(m *api.Dump) { m.Super.Mark = 9 },
	func(m *api.Dump) { m.Super.Mark = math.MaxInt },
	func(m *api.Dump) { m.Bits = nil },
	func(m *api.Dump) { m.Bits = []uint64{} },
	func(m *api.Dump) { m.Bits = []uint64{0x15c} },
	func(m *api.Dump) { m.Bits = []uint64{1 << 63} },
	func(m *api.Dump) { m.Bits = []uint64{0x5c, 0} },
	func(m *api.Dump) { m.Slots = nil },
	func(m *api.Dump) { m.Slots = []int{1} },
	func(m *api.Dump) { m.Slots = []int{1, -1, -1} },
	func(m *api.Dump) { m.Slots = []int{1, 2} },
	func(m *api.Dump) { m.Slots = []int{-2, 1} },
	func(m *api.Dump) { m.Slots = []int{1, math.MaxInt} },
	func(m *api.Dump) { m.Slots = []int{math.MinInt, 1} },
	func(m *api.Dump) { *m = api.Dump{} },
}

// P1902: example 5, and every other field outside its domain.
func TestNotPrinted(t *testing.T) {
	for _, spoil := range breaks {
		m := example()
		spoil(&m)
		wantNotPrinted(t, m)
	}
	for n := 1; n <= 4096; n += 61 {
		d := dice(n)
		m := rolledFor(&d, n, 128, 1)
		m.Slots[0] = (n + 3) / 4
		wantNotPrinted(t, m)
		m.Slots[0] = (n+3)/4 - 1
		want, _ := plainPrint(m)
		wantPrinted(t, m, want)
		if n%64 != 0 {
			m.Bits[n/64] |= 1 << (n % 64)
			wantNotPrinted(t, m)
		}
	}
}
