package wire

import (
	"bytes"
	"encoding/hex"
	"math"
	"reflect"
	"slices"
	"strings"
	"testing"

	"replica/api"
)

func unhex(text string) []byte {
	b, err := hex.DecodeString(strings.ReplaceAll(text, " ", ""))
	if err != nil {
		panic(err)
	}
	return b
}

func filled(value byte) [32]byte { return [32]byte(bytes.Repeat([]byte{value}, 32)) }

// samples: packets of all commands, at bounds of their fields and between them.
func samples() []api.Packet {
	long, code, nonce := bytes.Repeat([]byte{0xa5}, 1024), bytes.Repeat([]byte{3}, 256), []byte("0123456789abcdef")
	gens := api.Gens{Current: 1, Bitmap: 1<<63 + 2, Old1: 0x0102030405060708, Old2: math.MaxUint64}
	return []api.Packet{
		{Cmd: 1, Id: 86, Count: 90, Flags: 3}, {Cmd: 1}, {Cmd: 1, Id: 0x10203, Count: 0x10203}, {Cmd: 1, Id: 1<<32 - 1, Count: 1<<32 - 1, Flags: 1<<32 - 1},
		{Cmd: 2, Data: nonce},
		{Cmd: 3}, {Cmd: 3, Sum: filled(9)},
		{Cmd: 4, Block: 1, Count: 128}, {Cmd: 4, Block: 100, Count: 256, Flags: 1}, {Cmd: 4, Block: 4095, Count: 512, Flags: 9}, {Cmd: 4, Block: 4096, Count: 1024, Flags: 1<<32 - 1},
		{Cmd: 5}, {Cmd: 5, Count: 4096, Flags: 31, Gens: gens},
		{Cmd: 6}, {Cmd: 6, Flags: 1}, {Cmd: 6, Flags: 4}, {Cmd: 6, Flags: 5}, {Cmd: 6, Flags: 8}, {Cmd: 6, Flags: 9},
		{Cmd: 7, Count: 8, Data: code}, {Cmd: 7, Block: 56, Count: 8, Data: code[:1]}, {Cmd: 7, Block: 57, Count: 7, Data: code[:2]}, {Cmd: 7, Block: 63, Count: 1, Data: code[:255]},
		{Cmd: 8, Id: 1, Block: 2, Epoch: 3, Data: []byte("hi")}, {Cmd: 8, Id: 1<<31 - 1, Block: 4095, Epoch: 1<<32 - 1, Data: long},
		{Cmd: 9, Id: 1, Epoch: 1}, {Cmd: 9, Id: 1<<31 - 1, Block: 4095, Epoch: 1<<32 - 1},
		{Cmd: 10, Id: 7, Block: 300}, {Cmd: 11, Id: 1 << 30, Block: 256}, {Cmd: 16, Id: 1<<31 - 1, Block: 4095}, {Cmd: 18, Id: 1}, {Cmd: 24, Id: 65536, Block: 4080},
		{Cmd: 12, Id: 7, Flags: 1}, {Cmd: 12, Id: 7, Block: 1, Flags: 255},
		{Cmd: 13, Epoch: 1, Count: 64}, {Cmd: 13, Epoch: 1<<32 - 1, Count: 1}, {Cmd: 14, Epoch: 256, Count: 1}, {Cmd: 14, Epoch: 1, Count: 64},
		{Cmd: 15, Id: 1, Block: 2}, {Cmd: 15, Id: 1, Block: 2, Sum: filled(255)}, {Cmd: 15, Id: 1, Block: 2, Flags: 1},
		{Cmd: 17, Id: 1, Block: 2, Data: []byte{5}}, {Cmd: 17, Id: 1, Block: 2, Data: long},
		{Cmd: 19}, {Cmd: 19, Count: 1<<32 - 1}, {Cmd: 22, Count: 3},
		{Cmd: 20, Id: 1, Block: 2, Sum: filled(1)},
		{Cmd: 21, Id: 1, Block: 2}, {Cmd: 21, Id: 1, Block: 2, Flags: 1},
		{Cmd: 23}, {Cmd: 23, Gens: gens},
		{Cmd: 25, Id: 1, Block: 2, Data: []byte{7, 8}}, {Cmd: 25, Id: 1, Block: 2, Data: long}, {Cmd: 25, Id: 1, Block: 2, Flags: 21}, {Cmd: 25, Id: 1, Block: 2, Flags: 255},
	}
}

func wantEncoded(t *testing.T, p api.Packet) {
	t.Helper()
	b, e := EncodePacket(p)
	switch {
	case p.Cmd < 1 || p.Cmd > 25:
		if b != nil || e != api.ErrCmd {
			t.Errorf("EncodePacket(%+v) = %x, %d, want ErrCmd", p, b, e)
		}
	case !plainWhole(p):
		if b != nil || e != api.ErrBody {
			t.Errorf("EncodePacket(%+v) = %x, %d, want ErrBody", p, b, e)
		}
	case e != api.OK || !bytes.Equal(b, plainBytes(p)):
		t.Errorf("EncodePacket(%+v) = %x, %d, want %x", p, b, e, plainBytes(p))
	default:
		wantDecoded(t, b, p, 0, api.OK)
	}
}

func wantDecoded(t *testing.T, b []byte, want api.Packet, place int, errno api.Errno) {
	t.Helper()
	if len(want.Data) == 0 {
		want.Data = nil
	}
	if p, at, e := DecodePacket(b); !reflect.DeepEqual(p, want) || at != place || e != errno {
		t.Errorf("DecodePacket(%x) = %+v, %d, %d, want %+v, %d, %d", b, p, at, e, want, place, errno)
	}
}

// P702, P703: the chapter's examples.
func TestExamples(t *testing.T) {
	for _, c := range []struct {
		p    api.Packet
		text string
	}{
		{api.Packet{Cmd: api.CmdRecvAck, Id: 7, Block: 300}, "0a 00000007 0000012c"},
		{api.Packet{Cmd: api.CmdData, Id: 1, Block: 2, Epoch: 3, Data: []byte("hi")}, "08 00000001 00000002 00000003 0002 6869"},
		{api.Packet{Cmd: api.CmdState, Flags: 9}, "06 00000009"},
		{api.Packet{Cmd: api.CmdReadReply, Id: 1, Flags: uint32(api.ErrMedium)}, "19 00000001 00000000 00000015 0000"},
	} {
		if b, e := EncodePacket(c.p); !bytes.Equal(b, unhex(c.text)) || e != api.OK {
			t.Errorf("EncodePacket(%+v) = %x, %d, want %s", c.p, b, e, c.text)
		}
		wantDecoded(t, unhex(c.text), c.p, 0, api.OK)
	}
	for _, p := range []api.Packet{{Cmd: 10, Id: 7, Block: 300, Epoch: 1}, {Cmd: 10, Id: 7, Block: 4096}, {Cmd: 10, Block: 300}} {
		if b, e := EncodePacket(p); b != nil || e != api.ErrBody {
			t.Errorf("EncodePacket(%+v) = %x, %d, want ErrBody", p, b, e)
		}
	}
	for _, c := range []struct {
		text  string
		place int
		e     api.Errno
	}{
		{"0a 00000007 000001", 8, api.ErrShort},
		{"0a 00000007 0000012c 00", 9, api.ErrExtra},
		{"", 0, api.ErrShort},
		{"00", 0, api.ErrCmd},
		{"1a", 0, api.ErrCmd},
		{"ffff", 0, api.ErrCmd},
		{"0a 00000007 00001000", 7, api.ErrBody},
		{"0a 80", 1, api.ErrBody},
		{"0a 80000000 00000000", 1, api.ErrBody},
		{"0a 00000000 00000000", 4, api.ErrBody},
		{"0a 000000", 4, api.ErrShort},
		{"01 00000057 00000056 00000000", 8, api.ErrBody},
		{"02 000f 000000000000000000000000000000", 2, api.ErrBody},
		{"07 0000003d 00000004 0001 00", 8, api.ErrBody},
		{"06 00000002", 4, api.ErrBody},
		{"0f 00000001 00000000 00000001 000001" + strings.Repeat("00", 29), 15, api.ErrBody},
		{"19 00000001 00000000 00000015 0001 00", 14, api.ErrBody},
	} {
		wantDecoded(t, unhex(c.text), api.Packet{}, c.place, c.e)
	}
}

// P702: of each command, every field that it carries and every one that it does not, at each edge.
func TestEveryField(t *testing.T) {
	lengths := []int{0, 1, 2, 15, 16, 17, 255, 256, 257, 1023, 1024, 1025, 2048, 65535, 65536, 65537, 65552, 65792, 66560}
	for _, p := range samples() {
		wantEncoded(t, p)
		for _, letter := range "IBECF" {
			for _, n := range edges {
				q := p
				*numberOf(&q, letter) = n
				wantEncoded(t, q)
			}
		}
		for _, length := range lengths {
			q := p
			q.Data = make([]byte, length)
			wantEncoded(t, q)
		}
		for i := range 32 {
			q := p
			q.Sum[i] ^= 0x80 >> (i % 8)
			wantEncoded(t, q)
		}
		for _, g := range []api.Gens{{Current: 1}, {Bitmap: 1 << 40}, {Old1: 1 << 63}, {Old2: 256}} {
			q := p
			q.Gens = g
			wantEncoded(t, q)
		}
	}
}

// P702: every pair of numbers at the edges, in which one may bound the other.
func TestPairsOfNumbers(t *testing.T) {
	letters := "IBECF"
	for cmd := 1; cmd <= 25; cmd++ {
		p := samples()[slices.IndexFunc(samples(), func(p api.Packet) bool { return p.Cmd == cmd })]
		for i, first := range letters {
			for _, second := range letters[i+1:] {
				for _, m := range edges {
					for _, n := range edges {
						q := p
						*numberOf(&q, first), *numberOf(&q, second) = m, n
						wantEncoded(t, q)
					}
				}
			}
		}
	}
}

// P702: a Bits packet at each first word with each count; P703 with it.
func TestEveryWord(t *testing.T) {
	for first := range uint32(70) {
		for count := range uint32(12) {
			p := api.Packet{Cmd: api.CmdBits, Block: first, Count: count, Data: []byte{1}}
			wantEncoded(t, p)
			if _, _, e := DecodePacket(plainBytes(p)); (e == api.OK) != plainWhole(p) {
				t.Errorf("the bytes of %+v: %d", p, e)
			}
		}
	}
}

// P702, P707: numbers that are no command, some of which are one in their lowest byte.
func TestNoCommand(t *testing.T) {
	for _, cmd := range []int{math.MinInt, -1 << 32, -246, -25, -1, 0, 26, 27, 255, 256, 257, 266, 1<<16 + 10, 1<<32 + 10, math.MaxInt} {
		wantEncoded(t, api.Packet{Cmd: cmd, Id: 7, Block: 300})
		wantEncoded(t, api.Packet{Cmd: cmd, Epoch: 1, Data: make([]byte, 3000)})
		if s, e := Name(cmd); s != "" || e != api.ErrCmd {
			t.Errorf("Name(%d) = %q, %d, want ErrCmd", cmd, s, e)
		}
	}
}

// P707.
func TestName(t *testing.T) {
	all := "Feature Challenge Response Sizes Ids State Bits Data Zero RecvAck WriteAck NegAck Barrier BarrierAck SumRequest InSync SyncData SyncAck SyncDone VerifyRequest VerifyReply VerifyDone Gens ReadRequest ReadReply"
	for i, want := range strings.Fields(all) {
		if s, e := Name(i + 1); s != want || e != api.OK {
			t.Errorf("Name(%d) = %q, %d, want %q", i+1, s, e, want)
		}
	}
}

// P703: each sample with each byte turned into others, cut at each place, and with bytes behind it, as the onlooker sees it.
func TestEveryPlace(t *testing.T) {
	o := onlooker{map[string]bool{}}
	for _, p := range samples() {
		if len(p.Data) > 20 {
			p.Data = p.Data[:1] // the long ones stand in TestLongData
		}
		whole := plainBytes(p)
		if want, at, e := o.decode(whole); !reflect.DeepEqual(p, want) || at != 0 || e != api.OK {
			t.Fatalf("the onlooker reads %x as %+v, %d, %d", whole, want, at, e)
		}
		for at := range whole {
			values := []int{0, 1, 2, 16, 127, 128, 255}
			if at < 17 {
				values = all256()
			}
			for _, v := range values {
				b := bytes.Clone(whole)
				b[at] = byte(v)
				wantAsSeen(t, o, b)
				wantAsSeen(t, o, b[:at+1])
			}
			wantAsSeen(t, o, whole[:at])
		}
		for _, more := range [][]byte{{0}, {255}, {1, 0, 0, 0}, whole} {
			wantAsSeen(t, o, append(bytes.Clone(whole), more...))
		}
	}
}

func all256() []int {
	var out []int
	for i := range 256 {
		out = append(out, i)
	}
	return out
}

func wantAsSeen(t *testing.T, o onlooker, b []byte) {
	t.Helper()
	p, at, e := o.decode(b)
	wantDecoded(t, b, p, at, e)
}

// P703: lengths of Data at and beside their bounds, whole, a byte short, a byte too long.
func TestLongData(t *testing.T) {
	o := onlooker{map[string]bool{}}
	for _, head := range []string{"02", "07 00000000 00000001", "08 00000001 00000000 00000001", "11 00000001 00000000", "19 00000001 00000000 00000000", "19 00000001 00000000 00000001"} {
		for _, length := range []int{0, 1, 2, 15, 16, 17, 255, 256, 257, 511, 512, 1023, 1024, 1025, 1279, 1280, 2048, 65535} {
			b := append(unhex(head), byte(length>>8), byte(length))
			b = append(b, bytes.Repeat([]byte{7}, length)...)
			wantAsSeen(t, o, b)
			wantAsSeen(t, o, b[:len(b)-1])
			wantAsSeen(t, o, append(bytes.Clone(b), 0))
		}
	}
}

// P703: rolled bytes, that begin as a packet does; P701: whatever comes, none panics.
func TestRolledBytes(t *testing.T) {
	o := onlooker{map[string]bool{}}
	var d dice
	all := samples()
	for range 10000 {
		clear(o.known) // rolled bytes seldom come twice
		b := plainBytes(all[d.roll(len(all))])
		b = b[:min(len(b), 60)]
		for range d.roll(4) {
			b[d.roll(len(b))] = byte([]int{0, 1, 2, 4, 15, 16, 255, d.roll(256)}[d.roll(8)])
		}
		if d.roll(2) == 0 {
			b = b[:d.roll(len(b)+1)]
		}
		for range d.roll(2) * d.roll(40) {
			b = append(b, byte(d.roll(256)*d.roll(2)))
		}
		wantAsSeen(t, o, b)
	}
}

// P703: the lowest version bounds the highest, byte by byte.
func TestVersions(t *testing.T) {
	o := onlooker{map[string]bool{}}
	numbers := []uint32{0, 1, 86, 87, 90, 255, 256, 257, 0x156, 0x157, 0xffff, 0x10000, 0x1010101, 0x7fffffff, 0x80000000, 0xfffffffe, 0xffffffff}
	for _, low := range numbers {
		for _, high := range numbers {
			wantAsSeen(t, o, plainBytes(api.Packet{Cmd: api.CmdFeature, Id: low, Count: high, Flags: 5}))
		}
	}
}

// P704: of many packets' bytes, sorted, none begins the next; and no part of one is one.
func TestNoBeginning(t *testing.T) {
	var all [][]byte
	for _, p := range samples() {
		for _, letter := range layouts[p.Cmd] {
			for _, n := range edges {
				q := p
				if m := numberOf(&q, letter); m != nil {
					*m = n
				} else {
					q.Data = make([]byte, n%1100)
				}
				if b, e := EncodePacket(q); e == api.OK {
					all = append(all, b)
				}
			}
		}
	}
	slices.SortFunc(all, bytes.Compare)
	all = slices.CompactFunc(all, bytes.Equal)
	for i, b := range all[1:] {
		if bytes.HasPrefix(b, all[i]) {
			t.Fatalf("%x begins %x", all[i], b)
		}
		for n := range min(len(b), 70) {
			wantDecoded(t, b[:n], api.Packet{}, n, api.ErrShort)
		}
	}
	if len(all) < 500 {
		t.Errorf("only %d packets", len(all))
	}
}

// P701: with an error all else is zero, the list nil.
func TestZeroBesideErrors(t *testing.T) {
	if b, e := EncodePacket(api.Packet{Cmd: 8, Id: 1, Epoch: 1, Data: make([]byte, 1025)}); b != nil || e != api.ErrBody {
		t.Errorf("%x, %d", b, e)
	}
	for _, p := range samples() {
		b := plainBytes(p)
		wantDecoded(t, append(b, 0), api.Packet{}, len(b), api.ErrExtra)
		wantDecoded(t, b[:len(b)-1], api.Packet{}, len(b)-1, api.ErrShort)
	}
}

// P701: neither what is handed in nor what lies behind its end is changed, and no answer shares memory with it or with another answer.
func TestSharesNothing(t *testing.T) {
	for _, p := range samples() {
		room := append(bytes.Clone(p.Data), "spare room"...)
		if p.Data != nil {
			p.Data = room[:len(p.Data)]
		}
		before := bytes.Clone(room)
		b, _ := EncodePacket(p)
		c, _ := EncodePacket(p)
		scribble(c)
		if !bytes.Equal(b, plainBytes(p)) || !bytes.Equal(room, before) {
			t.Fatalf("EncodePacket(%+v) shares memory", p)
		}
		given := append(bytes.Clone(b), "spare room"...)
		first, _, _ := DecodePacket(given[:len(b)])
		second, _, _ := DecodePacket(given[:len(b)])
		scribble(second.Data)
		if !bytes.Equal(given, append(bytes.Clone(b), "spare room"...)) {
			t.Fatalf("DecodePacket(%x) shares memory with its bytes", b)
		}
		scribble(given)
		if !bytes.Equal(plainBytes(first), b) {
			t.Fatalf("DecodePacket(%x) shares memory", b)
		}
	}
}

// scribble overwrites a list and its spare room.
func scribble(list []byte) {
	for i := range list[:cap(list)] {
		list[:cap(list)][i] ^= 0xff
	}
}

// P2, P701: what was read or refused earlier leaves nothing behind.
func TestKeepsNothing(t *testing.T) {
	all := samples()
	for i := range 3 * len(all) {
		p := all[i*7%len(all)]
		EncodePacket(api.Packet{Cmd: 25, Id: 1, Flags: 1, Data: []byte{1}})
		DecodePacket(unhex("19 00000001 00000000 00000015 0001"))
		wantEncoded(t, p)
	}
}
