package node

import (
	"bytes"
	"slices"
	"strconv"
	"testing"

	"replica/api"
	"replica/disk"
)

// block: what a client may find in one.
type block struct {
	values [][]byte // the one that was durable last and those written since, as they were handed over
	loose  int      // behind a loss of power: of so many of the first it may be any
	turns  int      // how often this has changed
}

// open tells whether nobody knows which of the values the block has.
func (b *block) open() bool { return b.loose == len(b.values) }

// ask: a read, a write or a flush that has no answer yet.
type ask struct {
	node, kind, block int
	values            [][]byte // of a read: those of which one must be answered
	turns             int      // of a read: the block's when it was handed over
	counts            []int    // of a flush: how many values each block has had
}

// story: a plain script, played at random, and what its clients know.
type story struct {
	*pair
	dice   dice
	free   bool // promotions wherever they are taken
	blocks []block
	counts []int // of each block: how many values it has had in all
	asks   map[int]ask
	last   int     // which node was primary last; -1: none
	ever   [2]bool // which ever were
	wiped  [2]bool
	apart  [2]bool           // primary without a peer since the two were joined
	views  [2][][]byte       // of a node that is up to date and primary: its blocks
	given  [2]map[string]int // by node: what its clients have handed over, by block and bytes
	next   uint16
	log    []string
}

func newStory(t *testing.T, seed int, c api.Config, seen map[string]int) *story {
	t.Helper()
	y := &story{pair: newModelled(t, c, true, seen), dice: dice(seed), asks: map[int]ask{}, last: -1, given: [2]map[string]int{{}, {}}}
	for range 3 {
		y.dice.below(2)
	}
	y.pair.lost = y.lostPower
	for range c.Blocks {
		y.blocks = append(y.blocks, block{values: [][]byte{make([]byte, c.Size)}})
		y.counts = append(y.counts, 1)
	}
	y.plainStart()
	return y
}

func (y *story) fatal(what string) {
	y.t.Helper()
	tail := y.log[max(0, len(y.log)-60):]
	for _, line := range tail {
		y.t.Log(line)
	}
	for i := range 2 {
		if y.n[i] != nil {
			y.t.Logf("node %d: %+v why %d gens %v covered %v", i, y.n[i].Status(), y.n[i].Why(), y.n[i].Gens(), y.n[i].Covered())
		}
	}
	y.t.Fatal(what)
}

func (y *story) note(words ...string) {
	line := ""
	for _, w := range words {
		line += w + " "
	}
	y.log = append(y.log, line)
}

func num(n int) string { return strconv.Itoa(n) }

// plainStart: node 1 or both may be new, with whatever data.
func (y *story) plainStart() {
	wipe := y.dice.one(0, 0, 0, 1, 2)
	for i := 2 - wipe; i < 2; i++ {
		y.note("wipe", num(i))
		y.wiped[i] = true
		y.format(i, false)
		for range y.dice.below(4) {
			b, data := y.dice.below(y.c.Blocks), y.data()
			y.onDisks(i, func(d *disk.Disk) { d.Through(b, data) })
		}
		y.up(i)
	}
	if wipe == 2 {
		i := y.dice.below(2)
		y.note("force", num(i))
		y.must("P1705: by force", y.promote(i, true))
		y.ever[i], y.last = true, i
		for b := range y.blocks {
			y.blocks[b].values[0] = y.read(i, b)
		}
	}
}

// data: fills that come again now and then.
func (y *story) data() []byte {
	y.next++
	n := y.next
	if y.dice.below(6) == 0 {
		n = uint16(y.dice.below(3))
	}
	return fill(y.c.Size, byte(n>>8), byte(n))
}

// lostPower: what the node had to answer is not answered any more; a primary's blocks may have lost writes.
func (y *story) lostPower(i int) {
	y.note("  power lost:", num(i))
	y.hear()
	for id, a := range y.asks {
		if a.node == i {
			delete(y.asks, id)
		}
	}
	if y.last == i {
		for b := range y.blocks {
			y.blocks[b].loose = len(y.blocks[b].values)
			y.blocks[b].turns++
		}
	}
}

func (y *story) submitAt(i, kind int) {
	y.t.Helper()
	b, data := 0, []byte(nil)
	if kind != api.OpFlush {
		b = y.dice.below(y.c.Blocks)
	}
	if kind == api.OpWrite {
		data = y.data()
	}
	// What is handed over counts, should the power go in the same step.
	written := data
	if kind == api.OpZero {
		written = make([]byte, y.c.Size)
	}
	bl := &y.blocks[b]
	a := ask{node: i, kind: kind, block: b}
	before := *bl
	if kind == api.OpRead {
		a.values, a.turns = bl.values[len(bl.values)-1:], bl.turns
		if bl.open() {
			a.values = bl.values
		}
	}
	if kind == api.OpFlush {
		a.counts = slices.Clone(y.counts)
	}
	if written != nil {
		*bl = block{values: append(slices.Clone(bl.values), written), loose: bl.loose, turns: bl.turns + 1}
		y.counts[b]++
	}
	y.asks[y.ids+1] = a
	y.given[i][num(b)+string(written)] = 1
	id, e := y.submit(i, kind, b, data)
	y.note("submit", num(i), "kind", num(kind), "block", num(b), "id", num(id), "=", num(int(e)))
	if e != api.OK && e != api.ErrOff {
		y.seen["an operation is refused"]++
		if e != api.ErrFull {
			y.fatal("P10: an operation is refused: " + num(int(e)))
		}
		delete(y.asks, id)
		if written != nil {
			*bl = before
			y.counts[b]--
		}
	}
}

// hear looks at the answers that have come.
func (y *story) hear() {
	y.t.Helper()
	for _, x := range y.answered() {
		a, known := y.asks[x.Id]
		if !known {
			y.fatal("an answer to no operation: " + num(x.Id))
		}
		delete(y.asks, x.Id)
		y.seen["answer "+num(a.kind)]++
		if x.Err != api.OK {
			y.fatal("an answer with error " + num(int(x.Err)))
		}
		switch a.kind {
		case api.OpRead:
			y.hearRead(a, x.Data)
		case api.OpFlush:
			y.hearFlush(a)
		}
	}
}

func (y *story) hearRead(a ask, data []byte) {
	y.t.Helper()
	if y.free {
		return
	}
	if !slices.ContainsFunc(a.values, func(v []byte) bool { return bytes.Equal(v, data) }) {
		y.fatal("P3: a read of block " + num(a.block) + " has other data: " + num(int(data[0])) + " " + num(int(data[1])))
	}
	if bl := &y.blocks[a.block]; bl.open() && bl.turns == a.turns {
		y.seen["a block is found behind a crash"]++
		*bl = block{values: [][]byte{data}, turns: bl.turns + 1}
	}
}

// hearFlush: what was handed over ahead of it is durable.
func (y *story) hearFlush(a ask) {
	for b := range y.blocks {
		bl := &y.blocks[b]
		if first := len(bl.values) - 1 - (y.counts[b] - a.counts[b]); first >= bl.loose {
			bl.values, bl.loose = slices.Clone(bl.values[first:]), 0
		}
	}
}

func (y *story) primary() int {
	for i := range 2 {
		if y.isPrimary(i) {
			return i
		}
	}
	return -1
}

func (y *story) isPrimary(i int) bool {
	return y.n[i] != nil && y.n[i].Status().Role == api.Primary
}

func (y *story) says(i, conn int) bool { return y.n[i] != nil && y.n[i].Status().Conn == conn }

func (y *story) joined(i int) bool { return y.n[i] != nil && y.n[i].Status().Conn >= api.Connected }

// mayPromote: P3's premise.
func (y *story) mayPromote(i int) bool {
	if y.free {
		return true
	}
	both := y.says(0, api.Connected) && y.says(1, api.Connected)
	return !y.isPrimary(1-i) && (y.last == i || y.last == -1 || both)
}

func (y *story) tryPromote(i int) {
	y.t.Helper()
	if y.n[i] == nil || !y.mayPromote(i) {
		return
	}
	// The power may go behind the writing of it.
	before := y.last
	y.last = i
	e := y.promote(i, false)
	y.note("promote", num(i), "=", num(int(e)))
	switch e {
	case api.OK:
		y.ever[i] = true
		y.seen["promote"]++
		if before == 1-i {
			y.seen["the other node is promoted"]++
		}
	case api.ErrOff:
		y.ever[i] = true
	default:
		y.last = before
		y.seen["promote refused "+num(int(e))]++
	}
}

func (y *story) event() {
	y.t.Helper()
	i := y.dice.below(2)
	if p := y.primary(); p >= 0 && y.dice.below(3) > 0 {
		kind := y.dice.one(api.OpRead, api.OpWrite, api.OpWrite, api.OpZero, api.OpFlush)
		y.submitAt(p, kind)
		return
	}
	if y.n[i] == nil {
		if y.dice.below(6) == 0 {
			y.note("up", num(i), "=", strconv.FormatBool(y.up(i)))
		}
		return
	}
	switch y.dice.below(40) {
	case 0, 1, 2:
		y.note("connect", num(i), "=", num(int(y.connect(i, false))))
	case 3:
		if y.dice.below(4) == 0 {
			y.note("disconnect", num(i), "=", num(int(y.disconnect(i))))
		}
	case 4, 5, 6:
		y.tryPromote(i)
	case 7:
		e := y.demote(i)
		y.note("demote", num(i), "=", num(int(e)))
		y.seen["demote "+num(int(e))]++
	case 8:
		e := y.verify(i)
		y.note("verify", num(i), "=", num(int(e)))
		y.seen["verify "+num(int(e))]++
	case 9:
		if y.dice.below(3) == 0 {
			y.note("crash", num(i))
			y.crash(i, y.dice.picks())
		}
	case 10:
		if y.dice.below(3) == 0 {
			steps := y.dice.below(12)
			y.note("fuse", num(i), num(steps))
			y.fuse(i, steps, y.dice.picks())
		}
	case 11:
		y.parted = y.dice.below(2) == 0
		y.note("parted", strconv.FormatBool(y.parted))
	case 12, 13:
		if k := len(y.way[i]); k > 0 {
			place := y.dice.below(k)
			y.way[i] = slices.Delete(y.way[i], place, place+1)
			y.note("drop", num(i))
		}
	case 14, 15:
		if k := len(y.way[i]); k > 0 {
			y.way[i] = append(y.way[i], y.way[i][y.dice.below(k)])
			y.note("copy", num(i))
		}
	case 16, 17, 18, 19, 20:
		y.deliver(i, y.dice.below(1000))
		y.note("deliver", num(i))
	case 21, 22, 23:
		y.tick(i)
		y.note("tick", num(i))
	case 24:
		k := y.dice.below(25)
		y.note("rounds", num(k))
		for range k {
			y.rounds(1)
			y.look()
		}
	default:
		y.note("round")
		y.rounds(1)
	}
}

// look sees to what holds at every point.
func (y *story) look() {
	y.t.Helper()
	y.hear()
	y.lookCovered()
	y.lookApart()
	y.lookWritten()
	for i := range 2 {
		if y.n[i] != nil {
			y.seen["conn "+num(y.n[i].Status().Conn)]++
			y.seen["why "+num(int(y.n[i].Why()))]++
		}
	}
	if y.calm() {
		y.seen["in sync"]++
		if !bytes.Equal(y.durable(0), y.durable(1)) {
			y.fatal("P5: in sync, and the durable data differ")
		}
	}
}

func (y *story) lookCovered() {
	y.t.Helper()
	a, b := y.durable(0), y.durable(1)
	if bytes.Equal(a, b) {
		return
	}
	covered := append(y.covered(0), y.covered(1)...)
	for k := range y.c.Blocks {
		from := k * y.c.Size
		if !bytes.Equal(a[from:from+y.c.Size], b[from:from+y.c.Size]) && !slices.Contains(covered, k/api.ExtentBlocks) {
			y.fatal("P4: block " + num(k) + " differs and is not covered")
		}
	}
}

// lookApart: two that were primary apart are never joined again.
func (y *story) lookApart() {
	y.t.Helper()
	for i := range 2 {
		if y.joined(i) {
			if y.apart[0] && y.apart[1] {
				y.fatal("P8: a split brain was joined")
			}
			y.apart = [2]bool{}
		}
	}
	for i := range 2 {
		if y.isPrimary(i) && !y.joined(i) {
			y.apart[i] = true
		}
	}
}

// lookWritten: a block of a primary that is up to date changes by its clients' writes alone.
func (y *story) lookWritten() {
	y.t.Helper()
	for i := range 2 {
		if !y.isPrimary(i) || y.n[i].Status().Disk != api.UpToDate {
			y.views[i] = nil
			continue
		}
		var now [][]byte
		for b := range y.c.Blocks {
			now = append(now, y.read(i, b))
			if y.views[i] != nil && !bytes.Equal(now[b], y.views[i][b]) && y.given[i][num(b)+string(now[b])] == 0 {
				y.fatal("P9: block " + num(b) + " of primary " + num(i) + " has changed by another hand")
			}
		}
		y.views[i] = now
	}
}

// become: calm rounds bring the two together.
func (y *story) become() {
	y.t.Helper()
	if y.ever[0] && y.ever[1] || !y.ever[0] && !y.ever[1] && y.wiped[0] && y.wiped[1] {
		return
	}
	y.note("calm")
	y.parted = false
	for i := range 2 {
		y.fuse(i, -1, nil)
		if y.n[i] == nil && !y.up(i) {
			y.fatal("P6: it does not start")
		}
		if y.says(i, api.StandAlone) {
			y.must("P1703", y.connect(i, false))
		}
	}
	c := y.c
	bound := 6*(c.Blocks+c.Queue+20) + 16*c.Epoch + 2*c.Dead + 4*c.Resend
	for k := 0; !y.settled(); k++ {
		if k == bound {
			y.fatal("P7: not in sync behind calm rounds")
		}
		y.rounds(1)
		y.look()
	}
	y.seen["calm"]++
	if len(y.asks) > 0 {
		y.fatal("P1812: operations without an answer")
	}
}

// settled: what P1812 promises.
func (y *story) settled() bool {
	for i := range 2 {
		s := y.n[i].Status()
		if s.Conn != api.Connected || s.Disk != api.UpToDate || s.Pdsk != api.UpToDate || s.OutOfSync+s.Pending > 0 {
			return false
		}
	}
	return true
}

func storyConfigs() []api.Config {
	var list []api.Config
	for _, protocol := range []int{api.ProtoA, api.ProtoB, api.ProtoC} {
		c := resource()
		c.Protocol = protocol
		list = append(list, c)
		c.Blocks, c.Slots, c.Epoch, c.Queue, c.Backlog, c.Rate, c.Burst, c.Ahead, c.Secret = 10, 1, 2, 3, 60, 1, 2, 3, "open sesame"
		list = append(list, c)
		c.Window, c.Resend, c.Dead, c.Epoch, c.Ahead = 2, 1, 9, 1, 1
		list = append(list, c)
	}
	return list
}

func playStories(t *testing.T, count, events int, free bool) map[string]int {
	t.Helper()
	seen := map[string]int{}
	for seed := range count {
		for k, c := range storyConfigs() {
			y := newStory(t, seed*1000+k*10+1, c, seen)
			y.free = free
			y.note("seed", num(seed), "config", num(k))
			for range events {
				y.event()
				y.look()
			}
			if !free {
				y.become()
			}
		}
	}
	return seen
}

// sawAll: the stories have come to what they are told for.
func sawAll(t *testing.T, seen map[string]int, list ...string) {
	t.Helper()
	for _, what := range list {
		if seen[what] == 0 {
			t.Errorf("the stories have not seen %q", what)
		}
	}
	for _, why := range []api.Errno{api.ErrProto, api.ErrFull} {
		if seen["why "+num(int(why))] > 0 {
			t.Errorf("two nodes that keep to the rules were parted by %d", why)
		}
	}
}

// TestStories: one array, whatever comes; and in the end calm.
func TestStories(t *testing.T) {
	seen := playStories(t, 30, 400, false)
	sawAll(t, seen, "calm", "in sync", "a block is found behind a crash", "the other node is promoted", "demote 0", "verify 0", "promote",
		"conn 2", "conn 4", "conn 5", "conn 6", "conn 7", "deal 0", "deal 1", "deal 2", "deal 3", "deal 4", "why 142")
}

// TestFreeStories: with promotions at any place.
func TestFreeStories(t *testing.T) {
	seen := playStories(t, 30, 400, true)
	sawAll(t, seen, "in sync", "the other node is promoted", "conn 7", "why 142", "why 154", "why 156")
}

// TestAnsweredIsKept: the primary is lost, and its backup has every write that was answered.
func TestAnsweredIsKept(t *testing.T) {
	for seed := range 150 {
		c := storyConfigs()[6+seed%3]
		y := newStory(t, seed*7+1, c, map[string]int{})
		y.pair = newModelled(t, c, true, y.seen)
		y.join()
		y.must("P1705", y.promote(0, false))
		values := make([][][]byte, c.Blocks) // of each block: what was answered last, and what was handed over since
		for b := range values {
			values[b] = [][]byte{make([]byte, c.Size)}
		}
		places := map[int][2]int{} // by id: its block, its place there
		cut := make([]int, c.Blocks)
		for range 20 + y.dice.below(60) {
			b := y.dice.below(c.Blocks)
			data := y.data()
			if id, e := y.submit(0, api.OpWrite, b, data); e == api.OK {
				values[b] = append(values[b], data)
				places[id] = [2]int{b, len(values[b]) - 1}
			}
			switch y.dice.below(3) {
			case 0:
				y.rounds(1)
			case 1:
				y.deliver(y.dice.below(2), y.dice.below(9))
			}
			for _, a := range y.answered() {
				at := places[a.Id]
				cut[at[0]] = max(cut[at[0]], at[1])
			}
		}
		y.crash(0, y.dice.picks())
		y.way = [2][][]byte{}
		y.rounds(c.Dead)
		y.must("P13: the backup is promoted", y.promote(1, false))
		for b := range values {
			if !slices.ContainsFunc(values[b][cut[b]:], func(v []byte) bool { return bytes.Equal(v, y.read(1, b)) }) {
				t.Fatalf("P13: seed %d: block %d has lost a write that was answered", seed, b)
			}
		}
	}
}
