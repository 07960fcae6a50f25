package store

import (
	"bytes"
	"math"
	"slices"
	"testing"

	"replica/api"
	"replica/disk"
	"replica/meta"
)

// dice: numbers that look like chance and are the same each time.
type dice uint64

func (d *dice) below(n int) int {
	*d = *d*6364136223846793005 + 1442695040888963407
	return int(uint64(*d) >> 33 % uint64(n))
}

// pair: a disk with its store and their models, that are given the same calls.
type pair struct {
	t       *testing.T
	dice    dice
	d       *disk.Disk
	s       *Store
	pd      *platter
	p       *plain
	step    int
	layout  api.Layout
	touched []int // data blocks that were written
	seen    map[string]int
}

func newPair(t *testing.T, seed, blocks, size, slots int) *pair {
	t.Helper()
	l, e := meta.Plan(blocks, size, slots)
	if e != api.OK {
		t.Fatalf("Plan(%d, %d, %d): %v", blocks, size, slots, e)
	}
	d, _ := disk.New(l.Total, size)
	return &pair{t: t, dice: dice(seed), d: d, pd: newPlatter(l.Total, size), layout: l, seen: map[string]int{}}
}

func (c *pair) bad(what string, got, want any) {
	c.t.Helper()
	c.t.Fatalf("step %d, %+v: %s: %v, want %v", c.step, c.layout, what, got, want)
}

func (c *pair) errno(what string, got, want api.Errno) {
	c.t.Helper()
	c.seen[what+" "+want.Error()]++
	if got != want {
		c.bad(what, got, want)
	}
}

// spoilInts writes over a list and its spare room: whoever keeps the same memory is found out by what it tells next.
func spoilInts(list []int) {
	list = list[:cap(list)]
	for i := range list {
		list[i] = 987654321 + i
	}
}

func spoilWords(list []uint64) {
	list = list[:cap(list)]
	for i := range list {
		list[i] = ^list[i]
	}
}

func spoilBytes(list []byte) {
	list = list[:cap(list)]
	for i := range list {
		list[i] = ^list[i]
	}
}

func (c *pair) format(flags uint32, marked bool) {
	c.t.Helper()
	c.step++
	c.s, c.p = nil, nil
	gens := c.gens()
	got := Format(c.d, c.layout.Blocks, c.layout.Slots, gens, flags, marked)
	c.errno("P1101: Format", got, plainFormat(c.pd, c.layout.Blocks, c.layout.Slots, gens, flags, marked))
	c.alikeDisks()
}

func (c *pair) gens() api.Gens {
	return api.Gens{Current: uint64(c.dice.below(9)), Bitmap: uint64(c.dice.below(1 << 30)), Old1: uint64(c.dice.below(3)) << 60, Old2: uint64(c.dice.below(1 << 30))}
}

// open opens both; it tells whether there is a store.
func (c *pair) open() bool {
	c.t.Helper()
	c.step++
	s, r, e := Open(c.d)
	p, want, wantE := plainOpen(c.pd)
	c.errno("P1102: Open", e, wantE)
	if (s == nil) != (p == nil) {
		c.bad("P1102: the store", s, p)
	}
	if r.Slot != want.Slot || r.Crashed != want.Crashed || r.AllBits != want.AllBits || !slices.Equal(r.Hot, want.Hot) {
		c.bad("P1102: Recovery", r, want)
	}
	spoilInts(r.Hot)
	c.s, c.p = s, p
	c.alike()
	return s != nil
}

// alikeDisks holds what lies on the disks against each other: the metadata and the blocks that were written.
func (c *pair) alikeDisks() {
	c.t.Helper()
	got, want := c.d.Counts(), c.pd.counts
	if got.Through != want.Through || got.Writes != want.Writes || got.Flushes != want.Flushes || c.d.On() == c.pd.off {
		c.bad("what was written", got, want)
	}
	look := slices.Clone(c.touched)
	for block := c.layout.Blocks; block < c.layout.Total; block++ {
		look = append(look, block)
	}
	for _, block := range look {
		got, err := c.d.Durable(block)
		if want := c.pd.durable[block]; (err != nil) != (want == nil) || !bytes.Equal(got, want) {
			c.bad("durable bytes", got, want)
		}
		if c.d.Waiting(block) != len(c.pd.cached[block]) {
			c.bad("cached writes", c.d.Waiting(block), len(c.pd.cached[block]))
		}
	}
}

// alike holds what is told without an error against the model.
func (c *pair) alike() {
	c.t.Helper()
	c.alikeDisks()
	if c.s == nil {
		return
	}
	if c.p.down {
		c.isDown()
		return
	}
	s, p := c.s, c.p
	if s.Layout() != c.layout {
		c.bad("Layout", s.Layout(), c.layout)
	}
	if s.Super() != p.super {
		c.bad("P1103, P1111, P1112, P1114, P1115: Super", s.Super(), p.super)
	}
	c.sameWords("P1116: Bits", s.Bits(), wordsOf(p.marked))
	c.sameWords("P1116: Stored", s.Stored(), wordsOf(p.stored))
	c.sameInts("P1117: Hot", s.Hot(), p.log.Hot())
	c.sameInts("P1118: Covered", s.Covered(), p.covered())
	if s.Marked() != count(p.marked) || s.Records() != p.records {
		c.bad("P1116, P1117: Marked, Records", []int{s.Marked(), s.Records()}, []int{count(p.marked), p.records})
	}
	for _, from := range []int{math.MinInt, -1, 0, c.dice.below(p.blocks), p.blocks - 1, p.blocks, math.MaxInt} {
		if s.Next(from) != p.next(from) {
			c.bad("P1116: Next", s.Next(from), p.next(from))
		}
	}
	for _, block := range append([]int{math.MinInt, -1, p.blocks, c.layout.Super, math.MaxInt}, c.touched...) {
		if s.Waiting(block) != p.waiting(block) {
			c.bad("P1110: Waiting", s.Waiting(block), p.waiting(block))
		}
	}
}

func (c *pair) sameWords(what string, got, want []uint64) {
	c.t.Helper()
	if !slices.Equal(got, want) {
		c.bad(what, got, want)
	}
	spoilWords(got)
}

func (c *pair) sameInts(what string, got, want []int) {
	c.t.Helper()
	if !slices.Equal(got, want) {
		c.bad(what, got, want)
	}
	spoilInts(got)
}

// isDown: what a store that is down answers, whatever it is asked.
func (c *pair) isDown() {
	c.t.Helper()
	wantDown(c.t, c.s, c.layout)
}

func (c *pair) block() int {
	if c.dice.below(30) == 0 {
		far := []int{math.MinInt, -1, c.layout.Blocks, c.layout.Super, c.layout.Total, 1 << 32, math.MaxInt}
		return far[c.dice.below(len(far))]
	}
	if c.dice.below(4) > 0 && len(c.touched) > 0 {
		return c.touched[c.dice.below(len(c.touched))]
	}
	return c.dice.below(c.layout.Blocks)
}

func (c *pair) data() []byte {
	if c.dice.below(30) == 0 {
		sizes := []int{0, 1, c.layout.Size - 1, c.layout.Size + 1}
		return make([]byte, sizes[c.dice.below(len(sizes))])
	}
	return bytes.Repeat([]byte{byte(c.dice.below(256))}, c.layout.Size)
}

func (c *pair) words() []uint64 {
	words := make([]uint64, (c.layout.Blocks+63)/64)
	for range c.dice.below(4) {
		b := c.dice.below(c.layout.Blocks)
		words[b/64] |= 1 << (b % 64)
	}
	switch c.dice.below(20) {
	case 0:
		return words[1:]
	case 1:
		return append(words, 0)
	case 2:
		words[len(words)-1] |= 1 << 63
	}
	return words
}

// touch notes a data block that the row comes back to; the first few are enough.
func (c *pair) touch(block int) {
	if block >= 0 && block < c.layout.Blocks && len(c.touched) < 40 && !slices.Contains(c.touched, block) {
		c.touched = append(c.touched, block)
	}
}

func (c *pair) lay(what string, block int, real, model func(int, []byte) api.Errno) {
	c.t.Helper()
	data := c.data()
	before := slices.Clone(data)
	c.touch(block)
	e := real(block, data)
	if !bytes.Equal(data, before) {
		c.bad(what+" changed its data", data, before)
	}
	spoilBytes(data)
	c.errno(what, e, model(block, before))
}

// call makes one call of the store, wrong ones now and then.
func (c *pair) call() {
	c.t.Helper()
	c.step++
	block := c.block()
	switch n := c.dice.below(100); {
	case n < 20:
		c.errno("P1107: Begin", c.s.Begin(block), c.p.begin(block))
	case n < 35:
		c.errno("P1108: End", c.s.End(block), c.p.end(block))
	case n < 50:
		c.lay("P1109: Write", block, c.s.Write, c.p.write)
	case n < 54:
		c.lay("P1109: Apply", block, c.s.Apply, c.p.apply)
	case n < 58:
		c.lay("P1109: Through", block, c.s.Through, c.p.through)
	case n < 64:
		got, e := c.s.Read(block)
		want, wantE := c.p.read(block)
		if !bytes.Equal(got, want) {
			c.bad("P1106: Read", got, want)
		}
		spoilBytes(got)
		c.errno("P1106: Read", e, wantE)
	case n < 67:
		c.errno("P1110: Flush", c.s.Flush(), c.p.flush())
	case n < 90:
		c.callMarks(n, block)
	case n < 95:
		c.errno("P1114: Checkpoint", c.s.Checkpoint(), c.p.checkpoint())
	default:
		gens, flags := c.gens(), uint32(c.dice.below(18))
		c.errno("P1115: SetGens", c.s.SetGens(gens, flags), c.p.setGens(gens, flags))
	}
	c.alike()
}

func (c *pair) callMarks(n, block int) {
	c.t.Helper()
	switch {
	case n < 75:
		c.touch(block)
		got, e := c.s.Mark(block)
		want, wantE := c.p.mark(block)
		if got != want {
			c.bad("P1111: Mark", got, want)
		}
		c.errno("P1111: Mark", e, wantE)
	case n < 82:
		words := c.words()
		before := slices.Clone(words)
		got, e := c.s.MarkWords(words)
		want, wantE := c.p.markWords(before)
		if got != want || !slices.Equal(words, before) {
			c.bad("P1112: MarkWords", got, want)
		}
		spoilWords(words)
		c.errno("P1112: MarkWords", e, wantE)
	default:
		got, e := c.s.Clean(block)
		want, wantE := c.p.clean(block)
		if got != want {
			c.bad("P1113: Clean", got, want)
		}
		c.errno("P1113: Clean", e, wantE)
	}
}

// befall does to both disks what the world may do to one while a store is open.
func (c *pair) befall() {
	c.step++
	switch c.dice.below(3) {
	case 0:
		c.crash()
	case 1:
		c.fuse()
	default:
		block := c.dice.below(c.layout.Total)
		if c.dice.below(3) == 0 {
			block = c.layout.Blocks + c.dice.below(c.layout.Super-c.layout.Blocks)
		}
		c.touch(block)
		c.spoil(block)
	}
}

func (c *pair) crash() {
	picks := make([]byte, c.dice.below(4))
	for i := range picks {
		picks[i] = byte(c.dice.below(256))
	}
	c.d.Crash(picks)
	c.pd.crash(picks)
}

func (c *pair) spoil(block int) {
	c.d.Spoil(block)
	c.pd.durable[block] = nil
}

// write lays bytes onto both disks, as a stranger may while no store is open.
func (c *pair) write(block int, data []byte) {
	c.d.Through(block, data)
	c.pd.through(block, data)
}

// scribble lays onto the metadata what a recovery must cope with.
func (c *pair) scribble() {
	l := c.layout
	some := make([]byte, l.Size)
	for i := range some {
		some[i] = byte(c.dice.below(256))
	}
	super := api.Super{Seq: 1 << 62, Blocks: l.Blocks, Size: l.Size, Slots: l.Slots, Gens: c.gens(), Flags: uint32(c.dice.below(16)), Mark: c.dice.below(l.Blocks + 1)}
	switch c.dice.below(6) {
	case 0:
		c.write(l.Log+c.dice.below(l.LogBlocks), some)
	case 1:
		c.write(l.Bitmap+c.dice.below(l.BitmapBlocks), some)
	case 2:
		c.write(l.Super+c.dice.below(2), some)
	case 3:
		super.Blocks, super.Mark = l.Blocks%4096+1, 0
		block, _ := meta.Seal(super)
		c.write(l.Super+c.dice.below(2), block)
	case 4:
		super.Seq -= uint64(c.dice.below(3))
		block, _ := meta.Seal(super)
		c.write(l.Super+c.dice.below(2), block)
	default:
		block, _ := c.pd.read(l.Log + c.dice.below(l.LogBlocks))
		copy(some, block)
		c.write(l.Log+c.dice.below(l.LogBlocks), some)
	}
}

// fuse puts a short fuse into both disks, or none.
func (c *pair) fuse() {
	steps := c.dice.below(8) - 1
	c.d.Fuse(steps)
	c.pd.fuse = steps
}

// again opens the disks anew until there is a store, formatting them where none is to be found.
func (c *pair) again() {
	c.t.Helper()
	c.crash()
	c.alikeDisks()
	if c.dice.below(3) == 0 {
		c.scribble()
	}
	for {
		if c.dice.below(3) == 0 {
			c.fuse()
		}
		if c.open() {
			break
		}
		if c.pd.off {
			c.crash()
			continue
		}
		c.format(uint32(c.dice.below(16)), c.dice.below(4) == 0)
		if c.pd.off {
			c.crash()
		}
	}
	if c.dice.below(3) == 0 {
		c.twice()
	}
}

// twice opens once more, with nothing written in between but data that a crash may take.
func (c *pair) twice() {
	c.t.Helper()
	c.pd.fuse = -1
	c.d.Fuse(-1)
	super, bits, stored, covered := c.s.Super(), c.s.Bits(), c.s.Stored(), c.s.Covered()
	hot := c.p.named
	if super.Flags&api.FlagPrimary == 0 {
		hot = nil
	}
	slot := c.p.slot
	for range c.dice.below(3) {
		block := c.dice.below(c.layout.Blocks)
		c.touch(block)
		data := bytes.Repeat([]byte{byte(c.dice.below(256))}, c.layout.Size)
		c.d.Write(block, data)
		c.pd.write(block, data)
		c.spoil(c.dice.below(c.layout.Blocks))
		if c.dice.below(2) == 0 {
			c.crash()
		}
	}
	s, r, e := Open(c.d)
	if e != api.OK {
		c.bad("P1104: Open", e, api.OK)
	}
	if s.Super() != super || !slices.Equal(s.Bits(), bits) || !slices.Equal(s.Stored(), stored) || !slices.Equal(s.Covered(), covered) {
		c.bad("P1104", s.Super(), super)
	}
	if r.Slot != slot || r.Crashed != (super.Flags&api.FlagPrimary != 0) || !slices.Equal(r.Hot, hot) || r.AllBits {
		c.bad("P1104: Recovery", r, hot)
	}
	c.seen["twice"]++
	c.open()
}

var geometries = [][3]int{{1, 128, 1}, {4, 128, 1}, {5, 128, 2}, {12, 128, 2}, {41, 128, 5}, {63, 256, 4}, {64, 512, 8}, {65, 1024, 9}, {200, 128, 16}, {1024, 128, 3}, {1025, 128, 6}, {2100, 128, 16}, {2049, 256, 9}, {4095, 512, 7}, {4096, 128, 16}}

// P1101 to P1118 and P1120, in long rows of calls, losses of power, spoilt and scribbled metadata among them.
func TestRows(t *testing.T) {
	seen := map[string]int{}
	for i, g := range geometries {
		c := newPair(t, i+1, g[0], g[1], g[2])
		c.seen = seen
		c.format(uint32(c.dice.below(16)), i%2 == 0)
		c.again()
		rounds := 8000
		if g[0] > 1000 {
			rounds = 1200
		}
		for range rounds {
			switch n := c.dice.below(100); {
			case n < 92 && !c.p.down:
				c.call()
			case n < 97 && !c.p.down:
				c.befall()
				c.alike()
			default:
				c.again()
			}
		}
	}
	for _, what := range wantedInRows {
		if seen[what] < 20 {
			t.Errorf("%s came %d times alone", what, seen[what])
		}
	}
}

// wantedInRows: what the rows must have come by, to be worth something.
var wantedInRows = []string{
	"P1101: Format errno 0", "P1101: Format errno 22",
	"P1102: Open errno 0", "P1102: Open errno 22", "P1102: Open errno 53", "P1102: Open errno 54",
	"P1106: Read errno 0", "P1106: Read errno 2", "P1106: Read errno 21",
	"P1107: Begin errno 0", "P1107: Begin errno 2", "P1107: Begin errno 22", "P1107: Begin errno 41",
	"P1108: End errno 0", "P1108: End errno 2", "P1108: End errno 42",
	"P1109: Write errno 0", "P1109: Write errno 2", "P1109: Write errno 3", "P1109: Write errno 22", "P1109: Write errno 111",
	"P1109: Apply errno 0", "P1109: Apply errno 22", "P1109: Through errno 0", "P1109: Through errno 22",
	"P1110: Flush errno 0", "P1110: Flush errno 22",
	"P1111: Mark errno 0", "P1111: Mark errno 2", "P1111: Mark errno 22",
	"P1112: MarkWords errno 0", "P1112: MarkWords errno 2", "P1112: MarkWords errno 3", "P1112: MarkWords errno 22",
	"P1113: Clean errno 0", "P1113: Clean errno 2",
	"P1114: Checkpoint errno 0", "P1114: Checkpoint errno 4", "P1114: Checkpoint errno 22",
	"P1115: SetGens errno 0", "P1115: SetGens errno 1", "P1115: SetGens errno 4", "P1115: SetGens errno 22",
	"twice",
}
