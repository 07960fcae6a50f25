package cluster

import (
	"bytes"
	"fmt"
	"slices"
	"strings"
	"testing"

	"replica/api"
)

// with gives the examples' resource, with more in it.
func with(protocol string, more string) string {
	return "resource r0 { protocol " + protocol + "; device { blocks 8; block-size 128; al-slots 2; } " + more + " }"
}

// reads tells all blocks, as a client of a node has them.
func reads(t *testing.T, c *Cluster, i int) []string {
	t.Helper()
	var list []string
	for b := range c.config.Blocks {
		told := play(t, c, fmt.Sprintf("read %s %d", nodeName(i), b))
		w := strings.Fields(strings.Join(told, " "))
		if len(w) != 4 || w[2] != "read" {
			t.Fatalf("a read of block %d at %s: %q", b, nodeName(i), told)
		}
		list = append(list, w[3])
	}
	return list
}

// TestOneArray is P3 by hand: what one node's clients wrote the other's read, whoever was primary in between.
func TestOneArray(t *testing.T) {
	for _, protocol := range []string{"A", "B", "C"} {
		c := newJoined(t, with(protocol, ""))
		want := strings.Fields("00 00 00 00 00 00 00 00")
		p := 0
		for k := range 12 {
			for b := range 8 {
				if (b+k)%3 == 0 {
					want[b] = fmt.Sprintf("%02x", 16*k+b+1)
					play(t, c, fmt.Sprintf("write %s %d %s", nodeName(p), b, want[b]))
				}
			}
			play(t, c, fmt.Sprintf("zero %s %d", nodeName(p), k%8))
			want[k%8] = "00"
			if got := reads(t, c, p); !slices.Equal(got, want) {
				t.Fatalf("P3: protocol %s: %v, want %v", protocol, got, want)
			}
			play(t, c, "flush "+nodeName(p), "run 10")
			if k%4 == 3 { // a crash behind a flush loses nothing
				play(t, c, "crash "+nodeName(p)+" -", "up "+nodeName(p), "connect "+nodeName(p), "run 60", "promote "+nodeName(p))
			}
			tells(t, c, []string{"demote " + nodeName(p), "run 3", "promote " + nodeName(1-p)})
			p = 1 - p
			if got := reads(t, c, p); !slices.Equal(got, want) {
				t.Fatalf("P3: protocol %s, handed over: %v, want %v", protocol, got, want)
			}
		}
	}
}

// TestCrashedPrimary: what a primary's crash leaves is what the array has, whatever its peer has got: P3, P4, P5.
func TestCrashedPrimary(t *testing.T) {
	for p := range 2 {
		name, other := nodeName(p), nodeName(1-p)
		for _, x := range []struct {
			lines []string // behind the write
			picks string
			want  string
		}{
			{nil, "01", "11"}, // its peer has not got it
			{nil, "-", "00"},
			{[]string{"run 3"}, "01", "11"},
			{[]string{"run 3"}, "-", "00"},
			{[]string{"run 3", "flush " + name, "run 1"}, "-", "11"},
			{[]string{"part", "run 40"}, "-", "00"},
			{[]string{"part", "run 40"}, "01", "11"},
		} {
			for _, protocol := range []string{"A", "B", "C"} {
				c := newCluster(t, with(protocol, ""))
				play(t, c, "connect a", "connect b", "run 20", "promote "+name, "run 5", "write "+name+" 5 11")
				play(t, c, x.lines...)
				play(t, c, "crash "+name+" "+x.picks, "heal")
				for len(c.sides[1-p].queue) > 0 {
					play(t, c, "drop "+other+" 0")
				}
				if list := uncovered(t, c); len(list) > 0 {
					t.Errorf("P4: %q, picks %s: blocks %v differ and are not covered", x.lines, x.picks, list)
				}
				play(t, c, "up "+name, "connect "+name, "run 100")
				if !inSync(c) || len(differing(t, c)) > 0 {
					t.Fatalf("P5: %q, protocol %s: %q, blocks %v differ", x.lines, protocol, play(t, c, "status a", "status b"), differing(t, c))
				}
				play(t, c, "promote "+name)
				if got := reads(t, c, p); got[5] != x.want {
					t.Errorf("P3: %q, picks %s, protocol %s: node %s reads %v, want %s", x.lines, x.picks, protocol, name, got, x.want)
				}
			}
		}
	}
}

// TestInSync is P5: what a backup has cached when the net fails is durable there when the two say that they are in sync.
func TestInSync(t *testing.T) {
	for _, lines := range [][]string{
		{"part", "run 40", "heal", "run 60"},
		{"disconnect b", "run 5", "connect b", "run 5", "connect a", "run 60"},
		{"disconnect a", "run 5", "connect a", "run 60"},
		{"crash a 01", "up a", "connect a", "run 60"},
		{"crash b -", "up b", "connect b", "run 60"},
		{"crash b 01", "up b", "connect b", "run 60"},
	} {
		c := newJoined(t, small)
		play(t, c, "write a 0 11", "write a 6 22", "run 3")
		play(t, c, lines...)
		if !inSync(c) || len(differing(t, c)) > 0 {
			t.Errorf("P5: %q: %q, blocks %v differ", lines, play(t, c, "status a", "status b"), differing(t, c))
		}
	}
}

// TestRecovery is P6: the power goes at each writing step, with many picks.
func TestRecovery(t *testing.T) {
	for _, ahead := range [][]string{{"promote a"}, joined()} {
		for _, picks := range []string{"-", "01", "02", "ff", "000102", "0301"} {
			for steps := 0; recovers(t, ahead, steps, picks); steps++ {
			}
		}
	}
}

// recovers plays writes up to the loss of power; false: they came to their end.
func recovers(t *testing.T, ahead []string, steps int, picks string) bool {
	t.Helper()
	c := newCluster(t, small)
	play(t, c, ahead...)
	play(t, c, fmt.Sprintf("fuse a %d %s", steps, picks))
	values := make([][]string, 8) // of each block: what a flush made sure, and what came since
	for b := range values {
		values[b] = []string{"00"}
	}
	id := 0
	for k := range 20 {
		id++
		if k%7 == 6 {
			if told := play(t, c, "flush a", "run 4"); !slices.Contains(told, fmt.Sprintf("a %d ok", id)) {
				break
			}
			for b := range values {
				values[b] = values[b][len(values[b])-1:]
			}
			continue
		}
		b, value := k*5%8, fmt.Sprintf("%02x", k+1)
		values[b] = append(values[b], value)
		play(t, c, fmt.Sprintf("write a %d %s", b, value), "run 1")
	}
	if c.sides[0].node != nil {
		return false
	}
	for range 2 {
		s := openCopy(t, c.sides[0].disk)
		if least := s.Next(0); least >= 0 && s.Super().Mark > least {
			t.Errorf("P6: the recovered Mark is %d, block %d is marked", s.Super().Mark, least)
		}
		for b, value := range blocksOf(durable(t, c, 0), 128) {
			if !slices.Contains(values[b], value) {
				t.Fatalf("P6: %d steps, picks %s: block %d has %s, of %v", steps, picks, b, value, values[b])
			}
		}
		tells(t, c, []string{"up a", "promote a"})
		values = make([][]string, 8)
		for b, value := range reads(t, c, 0) { // what was started once is there the next time
			values[b] = []string{value}
		}
		play(t, c, "crash a ff")
	}
	return true
}

// TestSplitBrain is P8: however often they look for each other.
func TestSplitBrain(t *testing.T) {
	for _, roles := range [][]string{nil, {"demote a"}, {"demote b"}, {"demote a", "demote b"}, {"crash a -", "up a"}, {"crash a -", "crash b 01", "up b", "up a"}} {
		c := newJoined(t, small)
		play(t, c, "part", "run 30", "promote b", "write a 1 0a", "write b 1 0b", "write b 6 66", "flush a", "flush b", "disconnect a", "disconnect b", "heal")
		play(t, c, roles...)
		before := play(t, c, "data a", "data b", "gens a", "gens b")
		for range 3 {
			tells(t, c, []string{"connect a", "connect b", "run 30", "why a", "why b"}, "a why 154", "b why 154")
			for i := range 2 {
				if s := statusOf(t, c, i); s.Conn != api.StandAlone {
					t.Errorf("P8: %v: node %d is %d", roles, i, s.Conn)
				}
			}
		}
		if after := play(t, c, "data a", "data b", "gens a", "gens b"); !slices.Equal(before, after) {
			t.Errorf("P8: %v: %q has become %q", roles, before, after)
		}
	}
}

// TestTwoPrimaries is P9: two promotions that cross, and a primary that greets another.
func TestTwoPrimaries(t *testing.T) {
	c := newCluster(t, small)
	play(t, c, "connect a", "connect b", "run 20")
	tells(t, c, []string{"promote a", "promote b", "write a 1 0a", "run 30", "why a", "why b"}, "a 1 ok", "a why 156", "b why 156")
	if got := blocksOf(durable(t, c, 1), 128); !slices.Equal(got, strings.Fields("00 00 00 00 00 00 00 00")) {
		t.Errorf("P9: the other primary has %v", got)
	}
	play(t, c, "flush a", "flush b")
	before := play(t, c, "data a", "data b")
	tells(t, c, []string{"connect a", "connect b", "run 30", "why a", "why b"}, "a why 154", "b why 154")
	if after := play(t, c, "data a", "data b"); !slices.Equal(before, after) {
		t.Errorf("P9: %q has become %q", before, after)
	}
}

// TestPrimaryTarget is P9: a handshake that asks a primary to be a target ends with ErrPrimary. (No script of two nodes that keep to the rules comes to it: so the disk is made.)
func TestPrimaryTarget(t *testing.T) {
	c := newCluster(t, small)
	play(t, c, "promote a", "write a 1 0a", "crash a 01")
	s := openCopy(t, c.sides[0].disk)
	g := s.Super().Gens
	play(t, c, "up a", "promote a") // Current g.Current
	// b is from where a came to be, and has gone on from there.
	if e := formatAs(c, 1, api.Gens{Current: 5000, Bitmap: g.Current}); e != api.OK {
		t.Fatalf("Format: %d", e)
	}
	play(t, c, "up b")
	before := play(t, c, "data a", "data b")
	tells(t, c, []string{"connect a", "connect b", "run 30", "why a", "why b"}, "a why 156", "b why 156")
	if after := play(t, c, "data a", "data b"); !slices.Equal(before, after) {
		t.Errorf("P9: %q has become %q", before, after)
	}
}

// TestRefusedIsNowhere is P10.
func TestRefusedIsNowhere(t *testing.T) {
	c := newJoined(t, with("C", "net { max-queue 2; }"))
	tells(t, c, []string{"write a 0 01", "write a 1 02", "write a 2 ee", "zero a 2", "read a 2", "flush a", "write a 8 ee", "write a 3 ee 127", "write b 4 ee", "crash b -", "write b 5 ee", "scribble a 6 ee"},
		"a write refused 4", "a zero refused 4", "a read refused 4", "a flush refused 4", "a write refused 2", "a write refused 3", "b write refused 171", "b write refused 174", "a scribble refused 5")
	tells(t, c, []string{"up b", "connect b", "run 100", "flush a", "run 10"}, "a 1 ok", "a 2 ok", "a 11 ok")
	want := strings.Fields("01 02 00 00 00 00 00 00")
	for i := range 2 {
		if got := blocksOf(durable(t, c, i), 128); !slices.Equal(got, want) {
			t.Errorf("P10: node %d has %v, want %v", i, got, want)
		}
	}
}

// TestVerify is P11: blocks are scribbled on while their node is down; a verify finds just these, and the next handshake brings them over.
func TestVerify(t *testing.T) {
	for seed := range 60 {
		d := dice(seed + 40)
		d.below(2)
		config := randomConfig(&d, false)
		config.Dead = 4*config.Resend + 4
		c := newCluster(t, resourceOf(config))
		calm := fmt.Sprint("run ", bound(config))
		play(t, c, "connect a", "connect b", calm, "promote a")
		for b := range config.Blocks {
			play(t, c, fmt.Sprintf("write a %d %02x", b, d.below(4)), "run 4")
		}
		play(t, c, "flush a", calm)
		name := nodeName(d.below(2))
		play(t, c, "demote a", "run 5", "crash "+name+" -")
		for range d.below(6) {
			play(t, c, fmt.Sprintf("scribble %s %d %02x", name, d.below(config.Blocks), d.below(4)))
		}
		play(t, c, "up "+name, "connect "+name, calm)
		if !inSync(c) {
			t.Fatalf("the two are not joined: %q", play(t, c, "status a", "status b"))
		}
		differ := differing(t, c)
		p := d.below(2)
		name, other := nodeName(p), nodeName(1-p)
		play(t, c, "promote "+name, "run 5", "verify "+name, calm)
		found(t, c, config.Blocks, differ)
		switch d.below(3) {
		case 0: // without a primary the identifiers stay as they are: rule 23
			play(t, c, "demote "+name, "run 5", "disconnect "+name, "run 3")
		case 1:
			play(t, c, "disconnect "+other, "run 3")
		case 2:
			play(t, c, "crash "+other+" -", "up "+other, fmt.Sprint("run ", 2*config.Dead))
		}
		for i := range 2 {
			if statusOf(t, c, i).Conn == api.StandAlone {
				play(t, c, "connect "+nodeName(i))
			}
		}
		play(t, c, calm)
		if !inSync(c) || len(differing(t, c)) > 0 {
			t.Fatalf("P11: seed %d: the next handshake has not brought them over: %q", seed, play(t, c, "status a", "status b"))
		}
	}
}

// found: both sides have marked just these blocks, and say so.
func found(t *testing.T, c *Cluster, blocks int, differ []int) {
	t.Helper()
	for i := range 2 {
		want := fmt.Sprintf("%s progress mode 0 left 0 flight 0 shipped 0 same %d found %d", nodeName(i), blocks-len(differ), len(differ))
		tells(t, c, []string{"progress " + nodeName(i)}, want)
		marked := storedMarks(t, c, i)
		if status := statusOf(t, c, i); !slices.Equal(marked, differ) || status.OutOfSync != len(differ) || status.Conn != api.Connected {
			t.Fatalf("P11: node %d has marked %v, of %v; %+v", i, marked, differ, status)
		}
	}
}

// begun: a story of two nodes that are in sync, a primary.
func begun(t *testing.T, seed, protocol int, seen map[string]int) *story {
	t.Helper()
	d := dice(seed)
	d.below(2)
	c := randomConfig(&d, false)
	if protocol > 0 {
		c.Protocol = protocol
	}
	y := newStory(t, resourceOf(c), seed, false, seen)
	for len(y.told) > 0 && (y.ever[1] || y.wiped[0]) { // another start
		seed += 100000
		y = newStory(t, resourceOf(c), seed, false, seen)
	}
	y.promote(0)
	for range y.dice.below(5) {
		y.submit(0)
	}
	y.do("connect a")
	y.do("connect b")
	for k := 0; k < bound(c) && !inSync(y.c); k++ {
		y.round()
	}
	if !inSync(y.c) && c.Dead >= 4*c.Resend+4 {
		y.fatal("P7: not in sync")
	}
	return y
}

// TestEpochs is P12: writes on their way, and a backup that loses its power.
func TestEpochs(t *testing.T) {
	seen := map[string]int{}
	for seed := range *storyCount {
		y := begun(t, 500+seed, 0, seen)
		for range 20 + y.dice.below(100) {
			switch y.dice.below(12) {
			case 0:
				y.round()
			case 1, 2, 3:
				y.lazyRound()
			case 4:
				y.do("drop %s %d", nodeName(y.dice.below(2)), y.dice.below(100))
			case 5:
				y.epochs.fork()
			default:
				y.submit(0)
			}
		}
		y.epochs.fork()
		y.crash(1)
	}
	sawAll(t, seen, "fork", "a crash of a backup with writes")
}

// TestAnsweredIsKept is P13: the primary is lost, and its backup has every write that was answered.
func TestAnsweredIsKept(t *testing.T) {
	seen := map[string]int{}
	for seed := range *storyCount {
		y := begun(t, 900+seed, api.ProtoC, seen)
		if !y.isJoined(0) || !y.isJoined(1) {
			continue
		}
		for range 20 + y.dice.below(60) {
			switch y.dice.below(6) {
			case 0:
				y.round()
			case 1:
				y.lazyRound()
			default:
				y.submit(0)
			}
		}
		if !y.isJoined(0) || !y.isJoined(1) || y.status(1).Disk != api.UpToDate {
			continue
		}
		y.loseFirst()
		for b, value := range reads(t, y.c, 1) {
			if list := y.keptOf(b); !slices.Contains(list, value) {
				y.fatal("P13: block %d has %s, of %v", b, value, list)
			}
		}
		seen["lost a primary"]++
	}
	sawAll(t, seen, "lost a primary")
}

// loseFirst: node a is lost, and b is promoted.
func (y *story) loseFirst() {
	y.t.Helper()
	if y.dice.below(2) == 0 {
		play(y.t, y.c, "crash a "+y.dice.picks())
	}
	if y.dice.below(2) == 0 { // what is on its way comes, or it does not
		play(y.t, y.c, "run 1")
	}
	play(y.t, y.c, "part")
	for len(y.c.sides[1].queue) > 0 {
		play(y.t, y.c, "drop b 0")
	}
	for range 2 * y.c.config.Dead {
		play(y.t, y.c, "tick b")
	}
	if told := play(y.t, y.c, "promote b"); len(told) > 0 {
		y.fatal("P13: %q", told)
	}
}

// keptOf: the last write of a block that was answered, and all that were handed over later.
func (y *story) keptOf(b int) []string {
	var list []string
	for _, e := range y.blocks[b] {
		if _, waits := y.asks[e.id]; !waits {
			list = nil
		}
		list = append(list, e.value)
	}
	return list
}

// shipsWhatDiffers: a new node gets those of the blocks that differ, and the others' digests alone.
func shipsWhatDiffers(t *testing.T, resource string, seed int) {
	t.Helper()
	c := newCluster(t, resource)
	d := dice(seed)
	play(t, c, "promote a")
	for b := range c.config.Blocks {
		play(t, c, fmt.Sprintf("write a %d %02x", b, d.below(3)))
	}
	play(t, c, "flush a", "crash b -", "wipe b")
	for b := range c.config.Blocks {
		play(t, c, fmt.Sprintf("scribble b %d %02x", b, d.below(3)))
	}
	play(t, c, "up b")
	count := len(differing(t, c))
	play(t, c, "connect a", "connect b", fmt.Sprint("run ", bound(c.config)))
	for i := range 2 {
		want := fmt.Sprintf("%s progress mode 0 left 0 flight 0 shipped %d same %d found 0", nodeName(i), count, c.config.Blocks-count)
		tells(t, c, []string{"progress " + nodeName(i)}, want)
	}
}

// TestCalm is P1812 by hand: all that there is to do at once, with little room.
func TestCalm(t *testing.T) {
	for seed := range 60 {
		d := dice(seed + 3)
		d.below(2)
		config := randomConfig(&d, false)
		config.Dead = 4*config.Resend + 4
		c := newCluster(t, resourceOf(config))
		play(t, c, "crash b -", "wipe b")
		for b := range config.Blocks {
			if d.below(2) == 0 {
				play(t, c, fmt.Sprintf("scribble b %d %02x", b, d.below(4)))
			}
		}
		play(t, c, "up b", "promote a")
		for range 50 {
			play(t, c, fmt.Sprintf("write a %d %02x", d.below(config.Blocks), d.below(4)))
		}
		play(t, c, "flush a", "connect a", "connect b", fmt.Sprint("run ", 10+d.below(40)))
		if seed%2 == 0 { // nothing that clients do is in the way
			shipsWhatDiffers(t, resourceOf(config), seed)
		}
		asked := 0
		for range config.Queue + 3 {
			if told := play(t, c, fmt.Sprintf("write a %d %02x", d.below(config.Blocks), d.below(4))); wasRefused(told) == 0 {
				asked += 1 - len(told)
			}
		}
		told := play(t, c, fmt.Sprint("run ", bound(config)))
		if len(told) != asked {
			t.Errorf("P1812: %d operations waited, %q", asked, told)
		}
		for i := range 2 {
			if s := statusOf(t, c, i); s.Conn != api.Connected || s.Disk != api.UpToDate || s.Pdsk != api.UpToDate || s.OutOfSync+s.Pending > 0 {
				t.Errorf("P1812: %+v: node %d: %+v", config, i, s)
			}
		}
		if a, b := play(t, c, "flush a", fmt.Sprint("run ", bound(config)), "data a"), play(t, c, "data b"); a[len(a)-1][1:] != b[0][1:] {
			t.Errorf("P1812: %q, %q", a, b)
		}
		if !bytes.Equal(durable(t, c, 0), durable(t, c, 1)) {
			t.Error("P5: the data differ")
		}
	}
}
