package cluster

import (
	"bytes"
	"fmt"
	"slices"
	"strings"
	"testing"

	"replica/api"
	"replica/conf"
)

// joined are the lines that bring the two nodes together; a is primary.
func joined() []string { return []string{"promote a", "connect a", "connect b", "run 40"} }

func newJoined(t testing.TB, resource string) *Cluster {
	t.Helper()
	c := newCluster(t, resource)
	play(t, c, joined()...)
	if !inSync(c) {
		t.Fatalf("the two are not in sync: %q", play(t, c, "status a", "status b"))
	}
	return c
}

// TestNew is P1801.
func TestNew(t *testing.T) {
	for _, text := range []string{
		"", "resource", "resource r0 {}", "resource r0 { device { blocks 8; } }", "resource r0 { device { blocks 8; block-size 100; } }",
		"resource r0 { net { resend 20; } device { blocks 1; block-size 128; } }", small + "x", strings.Repeat(" ", 4097),
	} {
		_, place, e := conf.Parse(text)
		c, at, got := New(text)
		if c != nil || at != place || got != e || e == api.OK {
			t.Errorf("P1801: New(%.50q) = %v, %d, %d, want %d, %d", text, c, at, got, place, e)
		}
	}
	c := newCluster(t, small)
	line := "status cs:StandAlone ro:Secondary/Unknown ds:UpToDate/DUnknown C ns:0 nr:0 dw:0 dr:0 al:0 ap:0 ua:0 ep:0 oos:0"
	gens := "gens 0000000000000400 0000000000000000 0000000000000000 0000000000000000"
	tells(t, c, []string{"status a", "status b", "gens a", "gens b", "net"}, "a "+line, "b "+line, "a "+gens, "b "+gens, "net 0 0")
	tells(t, c, []string{"connect a", "connect b", "net"}, "net 1 1")
	for i := range 2 {
		if !bytes.Equal(durable(t, c, i), make([]byte, 1024)) {
			t.Errorf("P1801: the data of node %d are not zero", i)
		}
	}
}

// TestExamples are the chapter's.
func TestExamples(t *testing.T) {
	c := newCluster(t, small)
	tells(t, c, []string{"status a"}, "a status cs:StandAlone ro:Secondary/Unknown ds:UpToDate/DUnknown C ns:0 nr:0 dw:0 dr:0 al:0 ap:0 ua:0 ep:0 oos:0")
	tells(t, c, []string{"write a 3 ab", "promote a", "write a 3 ab", "read a 3", "covered a", "read a 8", "write a 3 ab 127"},
		"a write refused 171", "a 2 ok", "a 3 read ab", "a covered 0", "a read refused 2", "a write refused 3")
	tells(t, c, []string{"connect a", "connect b", "net"}, "net 1 1")
	tells(t, c, []string{"run 40", "status b", "progress b"},
		"b status cs:Connected ro:Secondary/Primary ds:UpToDate/UpToDate C ns:0 nr:0 dw:0 dr:0 al:0 ap:0 ua:0 ep:0 oos:0",
		"b progress mode 0 left 0 flight 0 shipped 1 same 0 found 0")
	if got := play(t, c, "data a", "data b"); got[0][1:] != got[1][1:] {
		t.Errorf("example 3: %q", got)
	}
	tells(t, c, []string{"write a 0 01"})
	tells(t, c, []string{"run 2"}, "a 6 ok")
	tells(t, c, []string{"flush a", "run 3"}, "a 7 ok")

	c = newJoined(t, small)
	tells(t, c, []string{"write a 0 02", "crash a -", "up a", "covered a"}, "a covered 0")
	if got := play(t, c, "gens a", "gens b"); got[0][1:] != got[1][1:] {
		t.Errorf("example 5: %q", got)
	}

	c = newJoined(t, small)
	tells(t, c, []string{"part", "run 30", "promote b", "write a 1 0a", "write b 1 0b", "heal", "run 30", "why a", "why b"}, "a 1 ok", "b 2 ok", "a why 154", "b why 154")
	for i := range 2 {
		if s := statusOf(t, c, i); s.Conn != api.StandAlone {
			t.Errorf("example 6: node %d: %+v", i, s)
		}
	}

	c = newCluster(t, small)
	tells(t, c, []string{"crash b -", "wipe b", "up b", "status b", "promote b"},
		"b status cs:StandAlone ro:Secondary/Unknown ds:Inconsistent/DUnknown C ns:0 nr:0 dw:0 dr:0 al:0 ap:0 ua:0 ep:0 oos:8", "b promote refused 172")
	tells(t, c, []string{"promote a", "fuse a 0 -", "write a 0 11", "read a 0", "up a"}, "a lost power", "a read refused 174")

	c = newCluster(t, small)
	play(t, c, append([]string{"promote a", "write a 3 ab"}, joined()[1:]...)...)
	tells(t, c, []string{"crash b -", "scribble b 6 77", "up b", "connect b", "run 80", "verify a", "run 40", "progress a", "covered b", "covered a"},
		"a progress mode 0 left 0 flight 0 shipped 0 same 7 found 1", "b covered 1", "a covered 1")
}

// TestLines is P1802: what is no event, and what is one by a hair.
func TestLines(t *testing.T) {
	c := newCluster(t, small)
	none := []string{
		"writ a 0 00", "write a 0", "write a 0 abc", "write a 00 ab", "write a 0 AB", "write a 0 ababab", "write c 0 ab", "run 10000", "Net", "net net", "ab", "up ab", "up  ",
		"read a 01", "read a +1", "read a 1_0", "read a 1000000000", "write a 0 0 ab", "write a 0 ab 4097", "write a 0 ab 01", "write a 0 " + strings.Repeat("ab", 17),
		"crash a --", "crash a ab-", "crash a " + strings.Repeat("00", 17), "crash a abc", "connect a Discard", "connect discard", "promote a force force", "run -1", "run 1 1",
		"net\x00", "net\n", "net\t", "\u00a0net", "a # b", "tick a # b", "scribble a 0 ab 128", "fuse a 0 - -", "status", "status a b",
	}
	for _, line := range none {
		if got, e := c.Do(line); e != api.ErrLine || len(got) > 0 {
			t.Errorf("P1802: Do(%q) = %q, %d, want ErrLine", line, got, e)
		}
	}
	for _, line := range []string{"", " ", "#", "#\n", "  #x y z", "# write", strings.Repeat(" ", 200), "#" + strings.Repeat("\xff", 199)} {
		if got, e := c.Do(line); e != api.OK || len(got) > 0 {
			t.Errorf("P1802: Do(%q) = %q, %d, want nothing, OK", line, got, e)
		}
	}
	for _, line := range []string{strings.Repeat(" ", 201), "#" + strings.Repeat(" ", 200), "net" + strings.Repeat(" ", 198), strings.Repeat("x", 5000)} {
		if got, e := c.Do(line); e != api.ErrLong || len(got) > 0 {
			t.Errorf("P1802: Do(%.20q), %d bytes = %q, %d, want ErrLong", line, len(line), got, e)
		}
	}
	tells(t, c, []string{strings.Repeat(" ", 197) + "net", "   promote   a  ", "read a 999999999", "run 9999", "write a 0 " + strings.Repeat("0f", 16) + " 4096", "zero a 0", "crash a " + strings.Repeat("0f", 16), "up a"},
		"net 0 0", "a read refused 2", "a write refused 3", "a 3 ok")
}

// TestIds: the clients' operations are numbered over both nodes, refused ones too; no other event has a number.
func TestIds(t *testing.T) {
	c := newCluster(t, small)
	tells(t, c, []string{"flush a", "promote a", "read a 0", "write b 0 11", "zero a 99", "tick a", "zero a 1", "crash b -", "read b 0", "# read a 0", "flush a", "write a 0 1122 5", "write a 0 1122"},
		"a flush refused 171", "a 2 read 00", "b write refused 171", "a zero refused 2", "a 5 ok", "b read refused 174", "a 7 ok", "a write refused 3", "a 9 ok")
	c.ops = 1<<31 - 2
	tells(t, c, []string{"read a 1", "read a 1", "read a 1"}, "a 2147483647 read 00", "a read refused 1", "a read refused 1")
}

// TestToldData: the shortest first part that makes a block up.
func TestToldData(t *testing.T) {
	c := newCluster(t, strings.Replace(small, "128", "256", 1))
	play(t, c, "promote a")
	for fill, want := range map[string]string{
		"00": "00", "ff": "ff", "abab": "ab", "0a0b": "0a0b", "0a0b0a0b": "0a0b", "0000000000000001": "0000000000000001", "00010001000100010001000100010001": "0001",
		"000102030405060708090a0b0c0d0e0f": "000102030405060708090a0b0c0d0e0f", "0a0a0a0b": "0a0a0a0b", "0a0b0b0a": "0a0b0b0a",
	} {
		if got := play(t, c, "write a 1 "+fill, "read a 1"); len(got) != 2 || !strings.HasSuffix(got[1], " read "+want) {
			t.Errorf("told data: %q is told as %q", fill, got)
		}
	}
	for size := 128; size <= 1024; size *= 2 {
		for part := 1; part <= size; part *= 2 {
			block := bytes.Repeat(append(make([]byte, part-1), 7), size/part)
			if got := tellAnswer(1, api.Answer{Id: 3, Data: block}); !slices.Equal(got, []string{fmt.Sprintf("b 3 read %0*d", 2*part, 7)}) {
				t.Errorf("told data: %d bytes, the %d-th not 0: %q", size, part, got)
			}
		}
	}
	// The last byte alone is another.
	block := append(make([]byte, 127), 1)
	if got := tellAnswer(0, api.Answer{Id: 1, Data: block}); len(got[0]) != len("a 1 read ")+256 {
		t.Errorf("told data: %q", got)
	}
}

// TestLength: a write says as many bytes as its second number, whatever the fill.
func TestLength(t *testing.T) {
	c := newCluster(t, small)
	play(t, c, "promote a")
	for length := range 300 {
		got := play(t, c, fmt.Sprintf("write a 0 0102 %d", length))
		if want := fmt.Sprintf("a %d ok", length+1); (got[0] == want) != (length == 128) || length != 128 && got[0] != "a write refused 3" {
			t.Errorf("a write of %d bytes: %q", length, got)
		}
	}
	tells(t, c, []string{"read a 0"}, "a 301 read 0102")
}

// TestAnswers: a read that fails, and one that the peer helps out with.
func TestAnswers(t *testing.T) {
	c := newCluster(t, small)
	tells(t, c, []string{"promote a", "spoil a 5", "read a 5"}, "a 1 error 21")
	c = newJoined(t, small)
	tells(t, c, []string{"write a 5 77", "flush a", "run 3", "spoil a 5", "read a 5", "read b 5", "run 2"}, "a 1 ok", "a 2 ok", "b read refused 171", "a 3 read 77")
	// What is answered in one step is told in order.
	c = newJoined(t, small)
	tells(t, c, []string{"write a 0 01", "write a 1 02", "flush a", "write a 2 03", "read a 1", "part", "run 30"}, "a 5 read 02", "a 1 ok", "a 2 ok", "a 3 ok", "a 4 ok")
}

// TestRefusals: each event that is refused, and that nothing has changed by it.
func TestRefusals(t *testing.T) {
	for _, x := range []struct {
		ahead []string
		line  string
		want  string
	}{
		{nil, "up a", "a up refused 5"},
		{[]string{"crash a -"}, "crash a -", "a crash refused 174"},
		{nil, "wipe b", "b wipe refused 5"},
		{nil, "scribble a 0 11", "a scribble refused 5"},
		{nil, "scribble a 8 11", "a scribble refused 5"},
		{[]string{"crash a -"}, "scribble a 8 11", "a scribble refused 2"},
		{nil, "spoil a 12", "a spoil refused 2"},
		{[]string{"crash a -"}, "spoil a 12", "a spoil refused 2"},
		{[]string{"crash b -"}, "fuse b 0 -", "b fuse refused 174"},
		{[]string{"connect a"}, "connect a", "a connect refused 5"},
		{[]string{"promote a"}, "connect a discard", "a connect refused 171"},
		{nil, "disconnect a", "a disconnect refused 5"},
		{[]string{"promote a"}, "promote a", "a promote refused 5"},
		{[]string{"crash b -", "wipe b", "up b"}, "promote b", "b promote refused 172"},
		{joined(), "promote b", "b promote refused 173"},
		{nil, "demote a", "a demote refused 5"},
		{append(joined(), "write a 0 11"), "demote a", "a demote refused 5"},
		{append(joined(), "write a 0 11", "run 2"), "demote a", "a demote refused 5"}, // it is answered, and in the log
		{nil, "verify a", "a verify refused 171"},
		{[]string{"promote a"}, "verify a", "a verify refused 5"},
		{[]string{"promote a"}, "invalidate a", "a invalidate refused 171"},
		{[]string{"connect a"}, "invalidate a", "a invalidate refused 5"},
		{[]string{"promote a"}, "read a 8", "a read refused 2"},
		{nil, "flush b", "b flush refused 171"},
	} {
		c := newCluster(t, small)
		play(t, c, x.ahead...)
		all := []string{"status a", "status b", "gens a", "gens b", "why a", "why b", "covered a", "covered b", "net", "data a", "data b"}
		before := play(t, c, all...)
		images := [2][]byte{c.sides[0].disk.Image(), c.sides[1].disk.Image()}
		tells(t, c, []string{x.line}, x.want)
		if after := play(t, c, all...); !slices.Equal(before, after) {
			t.Errorf("%q was refused and has changed %q to %q", x.line, before, after)
		}
		for i := range 2 {
			if !bytes.Equal(c.sides[i].disk.Image(), images[i]) {
				t.Errorf("%q was refused and has changed the disk of %d", x.line, i)
			}
		}
	}
	c := newCluster(t, small)
	play(t, c, "crash a -")
	for _, line := range []string{"connect a", "connect a discard", "disconnect a", "promote a", "promote a force", "demote a", "verify a", "invalidate a", "read a 0", "write a 0 11", "zero a 0", "flush a"} {
		tells(t, c, []string{line}, "a "+strings.Fields(line)[0]+" refused 174")
	}
	tells(t, c, []string{"tick a", "deliver a 0", "status a", "progress a", "gens a", "why a", "covered a"}, "a down", "a down", "a down", "a down", "a down")
}

// TestDisks: wipe, scribble and spoil.
func TestDisks(t *testing.T) {
	c := newCluster(t, small)
	play(t, c, "promote a", "write a 2 99", "flush a", "crash a -", "scribble a 3 0102", "scribble a 7 ff")
	want := strings.Fields("00 00 99 0102 00 00 00 ff")
	if got := blocksOf(durable(t, c, 0), 128); !slices.Equal(got, want) {
		t.Errorf("scribble: %v, want %v", got, want)
	}
	tells(t, c, []string{"spoil a 3", "spoil b 11"})
	want[3] = "00"
	if got := blocksOf(durable(t, c, 0), 128); !slices.Equal(got, want) {
		t.Errorf("P1803: an unreadable block: %v, want %v", got, want)
	}
	if _, err := c.sides[0].disk.Durable(3); err == nil {
		t.Error("spoil: the block can be read")
	}
	tells(t, c, []string{"wipe a", "up a", "status a", "gens a", "covered a"},
		"a status cs:StandAlone ro:Secondary/Unknown ds:Inconsistent/DUnknown C ns:0 nr:0 dw:0 dr:0 al:0 ap:0 ua:0 ep:0 oos:8",
		"a gens 0000000000000004 0000000000000000 0000000000000000 0000000000000000", "a covered 0 1")
	if !bytes.Equal(durable(t, c, 0), make([]byte, 1024)) {
		t.Error("wipe: the data are not zero")
	}
	// Neither slot of the superblock can be read.
	tells(t, c, []string{"crash b -", "spoil b 10", "spoil b 11", "up b", "status b", "read b 0"}, "b up refused 54", "b down", "b read refused 174")
}

// TestDurable is P1803, and that its answers are new memory.
func TestDurable(t *testing.T) {
	c := newCluster(t, small)
	play(t, c, "promote a", "write a 1 11", "flush a", "write a 2 22")
	for _, i := range []int{-1, 2, 1 << 40} {
		if data, e := c.Durable(i); e != api.ErrArg || len(data) > 0 {
			t.Errorf("P1803: Durable(%d): %d bytes, %d", i, len(data), e)
		}
		if s, e := c.Status(i); e != api.ErrArg || s != (api.Status{}) {
			t.Errorf("P1804: Status(%d): %+v, %d", i, s, e)
		}
		if list, e := c.Covered(i); e != api.ErrArg || len(list) > 0 {
			t.Errorf("P1805: Covered(%d): %v, %d", i, list, e)
		}
	}
	want := strings.Fields("00 11 00 00 00 00 00 00")
	data := durable(t, c, 0)
	if got := blocksOf(data, 128); !slices.Equal(got, want) {
		t.Errorf("P1803: %v, want %v", got, want)
	}
	for k := range data[:cap(data)] {
		data[:cap(data)][k] = 0xee
	}
	if got := blocksOf(durable(t, c, 0), 128); !slices.Equal(got, want) {
		t.Errorf("P1803: an answer is kept: %v", got)
	}
	play(t, c, "crash a 01")
	want[2] = "22"
	if got := blocksOf(durable(t, c, 0), 128); !slices.Equal(got, want) {
		t.Errorf("P1803: of a node that is down: %v, want %v", got, want)
	}
	if s, e := c.Status(0); e != api.ErrOff || s != (api.Status{}) {
		t.Errorf("P1804: of a node that is down: %+v, %d", s, e)
	}
}

// TestCovered is P1805: of a node that is down a copy of its disk is asked, and the disk stays as it is.
func TestCovered(t *testing.T) {
	c := newCluster(t, "resource r0 { device { blocks 9; block-size 128; al-slots 2; } }")
	covered := func(want ...int) {
		t.Helper()
		for range 2 {
			list, e := c.Covered(0)
			if e != api.OK || !slices.Equal(list, want) {
				t.Errorf("P1805: %v, %d, want %v", list, e, want)
			}
			clear(list[:cap(list)])
		}
	}
	covered()
	play(t, c, "connect a", "connect b", "run 20", "promote a", "write a 8 11", "write a 1 22")
	covered(0, 2)
	play(t, c, "crash a -")
	image := c.sides[0].disk.Image()
	covered(0, 2)
	if !bytes.Equal(c.sides[0].disk.Image(), image) {
		t.Error("P1805: the asking has changed the disk")
	}
	play(t, c, "spoil a 10") // the ring: as zeroes it has no extent
	covered()
	play(t, c, fmt.Sprint("spoil a ", len(image)/128-1), fmt.Sprint("spoil a ", len(image)/128-2))
	covered(0, 1, 2)

	for blocks := 1; blocks <= 13; blocks++ { // no superblock can be read: every extent
		c = newCluster(t, fmt.Sprintf("resource r0 { device { blocks %d; block-size 128; } }", blocks))
		play(t, c, "crash a -")
		total := len(c.sides[0].disk.Image()) / 128
		play(t, c, fmt.Sprint("spoil a ", total-1), fmt.Sprint("spoil a ", total-2))
		var want []int
		for b := 0; b < blocks; b += 4 {
			want = append(want, b/4)
		}
		covered(want...)
	}
}

// TestNet: a frame's way, and what the net's events do.
func TestNet(t *testing.T) {
	c := newCluster(t, small)
	tells(t, c, []string{"deliver a 0", "drop a 7", "copy b 3", "net", "part", "connect a", "net", "heal", "tick a", "tick a", "net", "tick a", "net"}, "net 0 0", "net 0 0", "net 0 0", "net 0 1")
	// While the net is parted what waits stays, and copies are made.
	tells(t, c, []string{"part", "copy b 0", "net", "drop b 1", "net", "crash b -", "deliver b 0", "net"}, "net 0 2", "net 0 1", "net 0 0")

	c = newCluster(t, small)
	queue := func(what, want string) {
		t.Helper()
		if got := string(bytes.Join(c.sides[0].queue, nil)); got != want {
			t.Errorf("%s: towards a wait %q, want %q", what, got, want)
		}
	}
	c.sides[0].queue = [][]byte{[]byte("0"), []byte("1"), []byte("2")}
	play(t, c, "copy a 4")
	queue("copy 4 of 3", "0121")
	play(t, c, "copy a 0", "drop a 6")
	queue("copy 0 of 4, drop 6 of 5", "0210")
	play(t, c, "deliver a 5")
	queue("deliver 5 of 4", "010")
	tells(t, c, []string{"crash a -", "deliver a 2", "deliver a 3", "net", "deliver a 9", "net"}, "net 1 0", "net 0 0")
}

// TestFull: a queue has room for 1024 frames.
func TestFull(t *testing.T) {
	c := newCluster(t, small)
	play(t, c, "connect b")
	for range 1022 {
		play(t, c, "copy a 0")
	}
	tells(t, c, []string{"net", "tick b", "tick b", "tick b", "net", "tick b", "tick b", "tick b", "net", "copy a 7", "net", "drop a 0", "copy a 7", "net"},
		"net 1023 0", "net 1024 0", "net 1024 0", "net 1024 0", "net 1024 0")
	tells(t, c, []string{"run 1", "net"}, "net 0 0")
	for _, frame := range c.sides[0].queue[:cap(c.sides[0].queue)] {
		if frame != nil {
			t.Fatal("a frame that is gone is kept")
		}
	}
	// Of the frames of one call those that find room are put.
	play(t, c, "connect a", "run 40", "promote b", "run 5")
	for _, block := range []string{"0", "1", "2", "3"} {
		play(t, c, "part", "write b "+block+" 11", "heal")
	}
	play(t, c, "drop a 0", "drop b 0", "drop a 0", "drop b 0")
	before := len(c.sides[0].queue)
	for range 1022 - before {
		c.sides[0].put([]byte("x"))
	}
	for range 3 {
		play(t, c, "tick b")
	}
	tells(t, c, []string{"net"}, "net 1024 0")
	last := c.sides[0].queue[1022:]
	for k, frame := range last { // the four are sent again, in order
		if _, p, ok := packetOf(frame); !ok || p.Cmd != api.CmdData || int(p.Block) != k {
			t.Errorf("a full queue: the frame at %d is %v", 1022+k, p)
		}
	}
}

// TestRounds: a round, event by event.
func TestRounds(t *testing.T) {
	for seed := range 40 {
		d := dice(seed)
		d.below(2)
		resource := resourceOf(randomConfig(&d, false))
		one, other := newCluster(t, resource), newCluster(t, resource)
		for step := range 120 {
			ahead := []string{"connect a", "connect b", "promote a", "write a 0 11", "read a 0", "flush a", "copy a 3", "drop b 2", "fuse b 5 01", "up b", "verify a", "deliver b 9"}
			lines := ahead[:min(3, step+1)]
			if step > 5 {
				lines = []string{ahead[d.below(len(ahead))]}
			}
			play(t, one, lines...)
			play(t, other, lines...)
			rounds := d.below(4)
			got := play(t, one, fmt.Sprint("run ", rounds))
			var want []string
			for range rounds {
				for i := range 2 {
					for range len(other.sides[i].queue) {
						want = append(want, play(t, other, "deliver "+nodeName(i)+" 0")...)
					}
				}
				want = append(want, play(t, other, "tick a", "tick b")...)
			}
			all := []string{"status a", "status b", "net", "data a", "data b"}
			if !slices.Equal(got, want) || !slices.Equal(play(t, one, all...), play(t, other, all...)) {
				t.Fatalf("a calm round: %q, want %q", got, want)
			}
		}
	}
}

// TestPower: the power goes at each writing step of an event; with it goes what the event would have told.
func TestPower(t *testing.T) {
	for _, x := range []struct {
		ahead []string
		line  string
		told  []string // by an event with power
	}{
		{nil, "connect a", nil},
		{nil, "connect a discard", nil},
		{nil, "promote a", nil},
		{nil, "invalidate a", nil},
		{[]string{"promote a", "write a 0 11"}, "demote a", nil},
		{[]string{"promote a"}, "write a 1 11", []string{"a 1 ok"}},
		{[]string{"promote a"}, "zero a 1", []string{"a 1 ok"}},
		{[]string{"promote a"}, "flush a", []string{"a 1 ok"}},
		{joined(), "write a 1 11", nil},
		{append(joined(), "write a 1 11", "write a 5 22"), "disconnect a", []string{"a 1 ok", "a 2 ok"}},
		{append(joined(), "write a 1 11", "part"), "run 30", []string{"a 1 ok"}},
		{[]string{"promote b", "write b 1 11", "connect a", "connect b"}, "run 30", nil},
		{[]string{"promote b", "write b 1 11", "connect a", "connect b", "run 30", "part", "run 19"}, "tick a", nil},
		{[]string{"promote b", "connect a", "connect b", "run 30", "write b 1 11"}, "run 1", []string{"b 1 ok"}},
	} {
		for steps := 0; ; steps++ {
			c := newCluster(t, small)
			play(t, c, x.ahead...)
			play(t, c, fmt.Sprintf("fuse a %d -", steps))
			told := play(t, c, x.line)
			if c.sides[0].node != nil {
				if !slices.Equal(told, x.told) || steps == 0 {
					t.Errorf("Power: %q behind %d steps tells %q, want %q", x.line, steps, told, x.told)
				}
				break
			}
			at := slices.Index(told, "a lost power")
			if at < 0 || at != len(told)-1 || at > 0 && !strings.HasPrefix(x.line, "run") {
				t.Errorf("Power: %q behind %d steps tells %q", x.line, steps, told)
			}
			tells(t, c, []string{"status a", "up a", "why a"}, "a down", "a why 0")
		}
	}
}

// TestPicks: which picks are taken when the power goes.
func TestPicks(t *testing.T) {
	for _, x := range []struct {
		lines []string
		want  string // of block 0
	}{
		{[]string{"crash a -"}, "00"},
		{[]string{"crash a 01"}, "11"},
		{[]string{"crash a 02"}, "22"},
		{[]string{"crash a 03"}, "00"},
		{[]string{"crash a 01020202"}, "11"},
		{[]string{"fuse a 0 01", "flush a"}, "11"},
		{[]string{"fuse a 0 02", "flush a"}, "22"},
		{[]string{"fuse a 9 01", "fuse a 0 02", "flush a"}, "22"},
		{[]string{"fuse a 9 01", "fuse a 0 -", "flush a"}, "00"},
		{[]string{"fuse a 0 01", "crash a 02"}, "22"},
		{[]string{"fuse a 1 01", "flush a", "write a 0 33"}, "22"},
		{[]string{"fuse b 0 01", "fuse a 0 02", "flush a"}, "22"},
	} {
		c := newCluster(t, small)
		play(t, c, "promote a", "write a 0 11", "write a 0 22")
		play(t, c, x.lines...)
		if got := blocksOf(durable(t, c, 0), 128)[0]; got != x.want || c.sides[0].node != nil {
			t.Errorf("Power: %q leaves %s, want %s", x.lines, got, x.want)
		}
	}
	// A crash takes the fuse out, and its picks.
	c := newCluster(t, small)
	tells(t, c, []string{"fuse a 0 02", "crash a -", "up a", "promote a", "write a 0 11", "flush a"}, "a 1 ok", "a 2 ok")
	if c.sides[0].picks != nil {
		t.Error("the picks of a fuse that is gone are kept")
	}
}

// TestUpWithoutPower: the refusal is told first. (No script comes to it: a node that is down has no fuse.)
func TestUpWithoutPower(t *testing.T) {
	c := newCluster(t, small)
	play(t, c, "promote a", "crash a -")
	c.sides[0].disk.Fuse(0)
	tells(t, c, []string{"up a", "status a", "up a", "status a"},
		"a up refused 22", "a lost power", "a down", "a status cs:StandAlone ro:Secondary/Unknown ds:UpToDate/DUnknown C ns:0 nr:0 dw:0 dr:0 al:0 ap:0 ua:0 ep:0 oos:0")
}

// TestRun is P1806.
func TestRun(t *testing.T) {
	many := strings.Repeat("net\n", 4000)
	for _, x := range []struct {
		resource, script string
		want             string
		at               int
		e                api.Errno
	}{
		{small, "", "", 0, api.OK},
		{small, "\n", "", 0, api.OK},
		{small, "net", "net 0 0\n", 0, api.OK},
		{small, "net\n", "net 0 0\n", 0, api.OK},
		{small, "net\n\n", "net 0 0\n", 0, api.OK},
		{small, "connect a\nnet\n# net\n  \nstatus b\n", "net 0 1\nb status cs:StandAlone ro:Secondary/Unknown ds:UpToDate/DUnknown C ns:0 nr:0 dw:0 dr:0 al:0 ap:0 ua:0 ep:0 oos:0\n", 0, api.OK},
		{"resource r0 {}", "net", "", 0, api.ErrMissing},
		{"resource r0 {}", "x", "", 0, api.ErrMissing},
		{"x", strings.Repeat("x", api.MaxScript+1), "", 0, api.ErrToken},
		{small, "x", "", 1, api.ErrLine},
		{small, "net\nnet\nnet \r\nnet", "", 3, api.ErrLine},
		{small, "net\n\n" + strings.Repeat(" ", 201) + "\nx\n", "", 3, api.ErrLong},
		{small, "x\n" + strings.Repeat(" ", 201), "", 1, api.ErrLine},
		{small, many, strings.Repeat("net 0 0\n", 4000), 0, api.OK},
		{small, many[:len(many)-1], strings.Repeat("net 0 0\n", 4000), 0, api.OK},
		{small, many + "\n", "", 0, api.ErrLong},
		{small, "x\n" + many, "", 0, api.ErrLong},
		{small, many + "net", "", 0, api.ErrLong},
		{small, strings.Repeat("#"+strings.Repeat("x", 99)+"\n", 648) + strings.Repeat("#", 88), "", 0, api.OK},
		{small, strings.Repeat("#"+strings.Repeat("x", 99)+"\n", 648) + strings.Repeat("#", 89), "", 0, api.ErrLong},
	} {
		got, at, e := Run(x.resource, x.script)
		if got != x.want || at != x.at || e != x.e {
			t.Errorf("P1806: Run(%.20q, %.30q) = %.60q, %d, %d, want %.60q, %d, %d", x.resource, x.script, got, at, e, x.want, x.at, x.e)
		}
	}
}
