package inspect

import (
	"fmt"
	"slices"
	"testing"

	"replica/api"
	"replica/bitmap"
	"replica/conf"
	"replica/disk"
	"replica/dump"
	"replica/greet"
	"replica/meta"
	"replica/node"
	"replica/store"
)

// rolledResource: rings of one, two and four blocks, areas of one and of several; every policy.
func rolledResource(seed int) api.Config {
	roll := dice(seed * 7)
	roll.below(2)
	form := [][3]int{{8, 128, 2}, {8, 128, 2}, {1, 128, 1}, {5, 256, 4}, {21, 128, 5}, {64, 512, 8}, {70, 128, 9}, {10, 1024, 16}, {8, 128, 2}, {5, 256, 4}, {21, 128, 5}, {10, 1024, 16}, {1025, 128, 13}}[roll.below(13)]
	c := sized(form[0], form[1], form[2])
	c.Sb0, c.Sb1 = roll.one(0, 0, 1, 2, 3, 4), roll.one(0, 5, 6)
	c.Protocol = roll.one(1, 2, 3)
	if roll.below(3) == 0 {
		c.Secret = "open sesame"
	}
	return c
}

// rolledGens: few identifiers, so that two disks often have some in common; none that a node makes.
func rolledGens(roll *dice) api.Gens {
	id := func() uint64 { return uint64(roll.one(0, 0, 4, 1001, 1002, 1003, 1004)) }
	switch roll.below(4) {
	case 0: // it went on alone
		return api.Gens{Current: uint64(1005 + roll.below(3)), Bitmap: uint64(1001 + roll.below(2)), Old1: id(), Old2: id()}
	case 1:
		return api.Gens{Current: 1001, Bitmap: id() * uint64(roll.below(2)), Old1: id(), Old2: id()}
	}
	return api.Gens{Current: id(), Bitmap: id(), Old1: id(), Old2: id()}
}

// rolledFlags: mostly of a disk that is worth something.
func rolledFlags(roll *dice) uint32 {
	if roll.below(3) > 0 {
		return uint32(roll.one(1, 1, 1, 5, 9))
	}
	return uint32(roll.below(16))
}

// used lets a store work on the disk, so that metadata of every kind lie there.
func used(roll *dice, d *disk.Disk, c api.Config) {
	s, _, e := store.Open(d)
	if e != api.OK {
		return
	}
	for range roll.below(16) {
		b := roll.below(c.Blocks)
		switch roll.below(8) {
		case 0, 1, 2:
			if s.Begin(b) == api.OK {
				s.Write(b, fill(c, roll.below(4)))
				if roll.below(3) > 0 {
					s.End(b)
				}
			}
		case 3:
			s.Mark(b)
		case 4:
			for bit := range c.Blocks {
				if roll.below(4) > 0 {
					s.Clean(bit)
				}
			}
		case 5:
			s.Checkpoint()
		case 6:
			s.SetGens(rolledGens(roll), rolledFlags(roll))
		case 7:
			s.Flush()
		}
	}
}

// rolledDisk gives a disk on which a store of the resource, or what is left of one, lies. The same seed gives the same disk.
func rolledDisk(seed int, c api.Config) *disk.Disk {
	roll := dice(seed)
	roll.below(2)
	l := planOf(c)
	d, _ := disk.New(l.Total, c.Size)
	for range roll.below(6) {
		d.Through(roll.below(c.Blocks), fill(c, roll.below(4)))
	}
	store.Format(d, c.Blocks, c.Slots, rolledGens(&roll), rolledFlags(&roll), roll.below(4) == 0)
	for range roll.below(3) {
		used(&roll, d, c)
	}
	for range roll.one(0, 0, 0, 1, 2) {
		harm(&roll, d, l)
	}
	if roll.below(3) == 0 {
		d.Fuse(roll.below(3))
	}
	if roll.below(6) == 0 {
		d.Fuse(0)
		d.Flush()
	}
	return d
}

// harm takes away a block, or lays something onto it, durably or not.
func harm(roll *dice, d *disk.Disk, l api.Layout) {
	block := roll.one(l.Bitmap, l.Log, l.Super, l.Super+1, roll.below(l.Total), roll.below(l.Blocks), l.Bitmap+roll.below(l.Total-l.Bitmap))
	data, err := d.Durable(block)
	switch {
	case roll.below(2) == 0:
		d.Spoil(block)
	case err != nil || roll.below(3) == 0:
		d.Through(block, make([]byte, l.Size))
	case roll.below(2) == 0:
		d.Write(block, make([]byte, l.Size))
	default:
		data[roll.below(l.Size)] ^= 1 << roll.below(8)
		d.Through(block, data)
	}
}

// otherwise gives a resource of which something is not as in c, or nothing.
func otherwise(roll *dice, c api.Config) api.Config {
	switch roll.below(12) {
	case 0:
		c.Blocks += roll.one(-1, 1)
	case 1:
		c.Slots += roll.one(-1, 1)
	case 2:
		c.Size *= 2
	case 3:
		c.Sb0 = roll.below(6)
	}
	return c
}

// P2002: Look by the chapter's words, and by a node that is started on a copy.
func TestLookRolled(t *testing.T) {
	ways := map[string]int{}
	for seed := range 3000 {
		roll := dice(seed * 31)
		c := rolledResource(seed)
		d := rolledDisk(seed, c)
		c = otherwise(&roll, c)
		m, e := Look(d, c)
		want, we := plainLook(d, c)
		if e != we || !sameDump(m, want) {
			t.Fatalf("P2002: seed %d: Look: %+v, %v, want %+v, %v", seed, m, e, want, we)
		}
		ways[fmt.Sprint("error ", int(e))]++
		twin := twinOf(d)
		if _, ne := node.New(twin, c, seed%2); ne != e {
			t.Fatalf("P2002: seed %d: Look: %v, a node's start: %v", seed, e, ne)
		}
		if e != api.OK {
			continue
		}
		s := opened(t, twin)
		if taken, te := dump.Take(twin); te != api.OK || s.Super() != m.Super || !slices.Equal(s.Bits(), m.Bits) || !slices.Equal(taken.Slots, m.Slots) {
			t.Fatalf("P2002: seed %d: Look: %+v, a node that was started has %+v, %x, %v", seed, m, s.Super(), s.Bits(), taken.Slots)
		}
		before, _ := dump.Take(twinOf(d))
		if before.Super.Flags&api.FlagPrimary != 0 {
			ways["primary"]++
			if countSet(m.Bits) > countSet(before.Bits) {
				ways["hot"]++
			}
		}
	}
	for _, way := range []string{"error 0", "error 53", "error 54", "error 124", "primary", "hot"} {
		if ways[way] < 50 {
			t.Errorf("%d times %q: %v", ways[way], way, ways)
		}
	}
}

// P2003, P2004: Forecast by the chapter's words, seen from both ends.
func TestForecastRolled(t *testing.T) {
	ways := map[string]int{}
	for seed := range 6000 {
		c := rolledResource(seed)
		a, b := rolledDisk(2*seed, c), rolledDisk(2*seed+1, c)
		f, e := Forecast(a, b, c)
		want, we := plainForecast(a, b, c)
		if e != we || !sameForecast(f, want) {
			t.Fatalf("P2003, P2004: seed %d: Forecast: %+v, %v, want %+v, %v", seed, f, e, want, we)
		}
		if e != api.OK {
			ways[fmt.Sprint("error ", int(e))]++
			continue
		}
		ways[fmt.Sprint("rule ", f.Verdict.Rule)]++
		ways[fmt.Sprint("kind ", f.Verdict.Kind)]++
		ways[fmt.Sprint("why ", int(f.Err))]++
		if len(f.Ship) > 0 && len(f.Hidden) > 0 {
			ways["both"]++
		}
		greets(t, seed, a, b, c, f)
	}
	for rule := 1; rule <= 23; rule++ {
		if rule < 15 && ways[fmt.Sprint("rule ", rule)] == 0 || rule == 20 && ways["rule 20"] == 0 || rule > 21 && ways[fmt.Sprint("rule ", rule)] == 0 {
			t.Errorf("rule %d was not met: %v", rule, ways)
		}
	}
	for _, way := range []string{"kind 0", "kind 1", "kind 2", "kind 3", "kind 4", "kind 5", "kind 6", "kind 7", "why 0", "why 154", "why 155", "why 172", "both", "error 54"} {
		if ways[way] < 20 {
			t.Errorf("%d times %q: %v", ways[way], way, ways)
		}
	}
}

// greets: two machines of layer 15 that bring what the Looks tell come to the same.
func greets(t *testing.T, seed int, a, b *disk.Disk, c api.Config, f api.Forecast) {
	t.Helper()
	var m [2]*greet.Machine
	var way [2][]api.Packet
	for i, d := range []*disk.Disk{a, b} {
		told, _ := Look(d, c)
		var e api.Errno
		m[i], e = greet.New(api.Self{
			Node: i, Secret: c.Secret, Nonce: slices.Repeat([]byte{byte(i)}, 16), Blocks: c.Blocks, Size: c.Size, Protocol: c.Protocol,
			Gens: told.Super.Gens, Flags: told.Super.Flags, Role: api.Secondary, Disk: plainState(told.Super.Flags), Bits: told.Bits, Sb0: c.Sb0, Sb1: c.Sb1, Sb2: c.Sb2,
		})
		if e != api.OK {
			t.Fatalf("seed %d: greet.New: %v", seed, e)
		}
		way[1-i], _ = m[i].Start()
	}
	why := api.OK
	for len(way[0])+len(way[1]) > 0 {
		for i := range 2 {
			if len(way[i]) == 0 {
				continue
			}
			back, _, e := m[i].Receive(way[i][0])
			way[i] = way[i][1:]
			way[1-i] = append(way[1-i], back...)
			if e != api.OK && e != api.ErrState {
				why = e
			}
		}
	}
	if why != f.Err {
		t.Fatalf("P2003: seed %d: Forecast: %+v, the handshake ends with %v", seed, f, why)
	}
	if why != api.OK {
		return
	}
	deal, e := m[0].Deal()
	if e != api.OK || deal.Verdict != f.Verdict {
		t.Fatalf("P2003: seed %d: Forecast: %+v, the deal is %+v, %v", seed, f, deal, e)
	}
	marked := list{}
	if deal.Verdict.Kind != api.NoSync {
		bits, _ := bitmap.From(c.Blocks, deal.Bits)
		marked = slices.Collect(bits.All())
	}
	if !slices.Equal(marked, f.Marked) {
		t.Fatalf("P2004: seed %d: Forecast: %+v, the deal's bits are %v", seed, f, marked)
	}
}

// P2001: a disk is as it was behind each call, whatever is asked: what it tells, what its fuse lets through, what a crash leaves.
func TestNothingChanges(t *testing.T) {
	for seed := range 600 {
		roll := dice(seed * 13)
		c := rolledResource(seed)
		a, b := rolledDisk(2*seed, c), rolledDisk(2*seed+1, c)
		untouched := rolledDisk(2*seed, c)
		wasA, wasB := seen(a), seen(b)
		asked := otherwise(&roll, c)
		Look(a, asked)
		Look(b, c)
		Forecast(a, b, asked)
		Forecast(b, a, c)
		Forecast(a, a, c)
		if seen(a) != wasA || seen(b) != wasB || seen(a) != seen(untouched) {
			t.Fatalf("P2001: seed %d: a disk has changed", seed)
		}
		picks := roll.picks()
		for _, d := range []*disk.Disk{a, untouched} {
			for k := range 3 {
				d.Write(k%c.Blocks, fill(c, 7))
			}
		}
		if a.On() != untouched.On() || a.Counts().Writes != untouched.Counts().Writes {
			t.Fatalf("P2001: seed %d: a fuse has changed", seed)
		}
		a.Crash(picks)
		untouched.Crash(picks)
		if seen(a) != seen(untouched) {
			t.Fatalf("P2001: seed %d: what was cached has changed", seed)
		}
	}
}

// P2001: the durable bytes alone count: not what is cached, not the power.
func TestDurableAloneCounts(t *testing.T) {
	for seed := range 600 {
		roll := dice(seed * 17)
		c := rolledResource(seed)
		a, b := rolledDisk(2*seed, c), rolledDisk(2*seed+1, c)
		m, e := Look(twinOf(a), c)
		f, fe := Forecast(twinOf(a), twinOf(b), c)
		total, _ := a.Geometry()
		for range 4 {
			for range 5 {
				a.Write(roll.below(total), fill(c, roll.below(256)))
				b.Write(roll.below(total), fill(c, roll.below(256)))
			}
			if again, ae := Look(a, c); ae != e || !sameDump(again, m) {
				t.Fatalf("P2001: seed %d: Look: %+v, %v, without a cache %+v, %v", seed, again, ae, m, e)
			}
			if again, ae := Forecast(a, b, c); ae != fe || !sameForecast(again, f) {
				t.Fatalf("P2001: seed %d: Forecast: %+v, %v, without a cache %+v, %v", seed, again, ae, f, fe)
			}
			a.Fuse(roll.below(3))
			b.Fuse(roll.below(3))
		}
		a.Crash(nil)
		b.Crash(nil)
		if again, ae := Forecast(a, b, c); ae != fe || !sameForecast(again, f) {
			t.Fatalf("P2001: seed %d: Forecast: %+v, %v, behind a crash %+v, %v", seed, f, fe, again, ae)
		}
	}
}

// over writes over a list, its spare room included.
func over[T any](s []T, with T) {
	s = s[:cap(s)]
	for i := range s {
		s[i] = with
	}
}

// P2001: what is answered is new memory: no list shares any with another or with what a later call answers.
func TestNewMemory(t *testing.T) {
	c := sized(21, 128, 5)
	a, b := formatted(t, c, api.Gens{Current: 72, Bitmap: 1024}, 5, 3, 4, 12), clean(t, c)
	opened(t, a).Begin(8)
	for _, block := range []int{3, 4, 9, 20} {
		a.Through(block, fill(c, 7))
	}
	m, _ := Look(a, c)
	kept := api.Dump{Super: m.Super, Bits: slices.Clone(m.Bits), Slots: slices.Clone(m.Slots)}
	over(m.Bits, 0)
	if !slices.Equal(m.Slots, kept.Slots) {
		t.Error("P2001: a dump's lists share memory")
	}
	over(m.Slots, 77)
	if again, _ := Look(a, c); !sameDump(again, kept) {
		t.Errorf("P2001: Look: %+v, want %+v", again, kept)
	}
	f, _ := Forecast(a, b, c)
	want := api.Forecast{Verdict: api.Verdict{Kind: api.SourceBits, Rule: 9}, Marked: list{3, 4, 8, 9, 10, 11, 12}, Ship: list{3, 4, 9}, Hidden: list{20}}
	if !sameForecast(f, want) {
		t.Fatalf("P2004: Forecast: %+v, want %+v", f, want)
	}
	over(f.Marked, 77)
	if !slices.Equal(f.Ship, want.Ship) || !slices.Equal(f.Hidden, want.Hidden) {
		t.Error("P2001: a forecast's lists share memory")
	}
	over(f.Ship, 77)
	if !slices.Equal(f.Hidden, want.Hidden) {
		t.Error("P2001: a forecast's lists share memory")
	}
	over(f.Hidden, 77)
	if again, _ := Forecast(a, b, c); !sameForecast(again, want) {
		t.Errorf("P2001: Forecast: %+v, want %+v", again, want)
	}
}

// P1, P2001: no call panics at any disks and resources, and twice the same gives twice the same.
func TestNoise(t *testing.T) {
	odd := []int{-1 << 63, -1, 0, 1, 2, 3, 5, 8, 128, 129, 1024, 4096, 4097, 1<<63 - 1}
	refused := 0
	for seed := range 2000 {
		roll := dice(seed)
		roll.below(2)
		c := rolledResource(seed)
		disks := []*disk.Disk{nil, rolledDisk(seed, c), noisy(&roll), clean(t, c)}
		fields := []*int{&c.Blocks, &c.Size, &c.Slots, &c.Protocol, &c.Window, &c.Backlog, &c.Resend, &c.Dead, &c.Epoch, &c.Queue, &c.Sb0, &c.Sb1, &c.Sb2, &c.Rate, &c.Burst, &c.Ahead}
		for range roll.below(3) {
			*fields[roll.below(len(fields))] = roll.one(odd...)
		}
		a, b := disks[roll.below(4)], disks[roll.below(4)]
		f, e := Forecast(a, b, c)
		again, ae := Forecast(a, b, c)
		want, we := plainForecast(a, b, c)
		if e != ae || e != we || !sameForecast(f, again) || !sameForecast(f, want) {
			t.Fatalf("P2003: seed %d: %+v: Forecast: %+v, %v, then %+v, %v, want %+v, %v", seed, c, f, e, again, ae, want, we)
		}
		if conf.Check(c) != api.OK && a != nil {
			refused++
			if e != api.ErrValue {
				t.Fatalf("P2003: seed %d: %+v: Forecast: %v", seed, c, e)
			}
		}
	}
	if refused < 200 {
		t.Errorf("%d resources were refused", refused)
	}
}

// noisy gives a disk of any form: of noise, with a superblock at its end that speaks of any device.
func noisy(roll *dice) *disk.Disk {
	size := roll.one(128, 256, 512, 1024)
	total := 1 + roll.below(40)
	image := make([]byte, total*size)
	for i := range image {
		image[i] = byte(roll.below(256))
	}
	d, _ := disk.Load(total, size, image)
	blocks := 1 + roll.below(40)
	block, _ := meta.Seal(api.Super{Seq: 1 + uint64(roll.below(9)), Blocks: blocks, Size: size, Slots: 1 + roll.below(16), Flags: uint32(roll.below(16)), Mark: roll.below(blocks + 1)})
	if roll.below(3) > 0 {
		d.Through(total-1-roll.below(min(2, total)), block)
	}
	return d
}
