package cluster

import (
	"bytes"
	"flag"
	"fmt"
	"slices"
	"strconv"
	"strings"
	"testing"

	"replica/api"
)

var (
	storyCount = flag.Int("stories", 60, "how many random scripts each test of stories plays")
	storySeed  = flag.Int("seed", 0, "other random scripts")
)

// entry: a write or zero of a block.
type entry struct {
	id    int
	value string
}

// ask: an operation without an answer.
type ask struct {
	node, block int
	kind, want  string // what a read must tell
}

// story: a plain script that is made up as it is played, and what an onlooker knows of it.
type story struct {
	t       *testing.T
	c       *Cluster
	seed    int
	dice    dice
	free    bool     // nodes are promoted wherever they take it; else as P3 says
	lines   []string // that were played
	told    [][]string
	ids     int
	blocks  [][]entry // of each block: what it surely had, and what was handed over since
	asks    map[int]ask
	last    int // which node was primary last; -1: none
	ever    [2]bool
	wiped   [2]bool
	apart   [2]bool           // primary without a peer since the two were joined
	given   [2]map[string]int // what each node's clients handed over, by block and value
	refused map[string]int    // values that no block may have
	since   map[int]int       // blocks that clients have written since the two were in sync
	next    int
	kept    int // frames that rounds keep back
	busy    int // how much of a primary's time is its clients': 0 to 2 thirds
	seen    map[string]int

	before [2]moment // ahead of the event
	epochs epochs
}

// moment: what a node says, and what its disk has durably.
type moment struct {
	up      bool
	status  api.Status
	durable []byte
	blocks  []string // as they are read, cached or not
}

func newStory(t *testing.T, resource string, seed int, free bool, seen map[string]int) *story {
	y := &story{
		t: t, c: newCluster(t, resource), seed: seed, dice: dice(seed), free: free, busy: 2, asks: map[int]ask{}, last: -1,
		given: [2]map[string]int{{}, {}}, refused: map[string]int{}, since: map[int]int{}, seen: seen,
	}
	for range 3 {
		y.dice.below(2)
	}
	y.epochs.story = y
	y.epochs.reset()
	for range y.c.config.Blocks {
		y.blocks = append(y.blocks, []entry{{0, "00"}})
	}
	y.plainStart()
	return y
}

func (y *story) fatal(text string, args ...any) {
	y.t.Helper()
	for k := max(0, len(y.lines)-80); k < len(y.lines); k++ {
		y.t.Logf("%s  -> %q", y.lines[k], y.told[k])
	}
	for i := range 2 {
		y.t.Log(play(y.t, y.c, "status "+nodeName(i), "gens "+nodeName(i), "why "+nodeName(i), "covered "+nodeName(i)))
	}
	y.t.Fatalf("seed %d: %s", y.seed, fmt.Sprintf(text, args...))
}

func (y *story) isUp(i int) bool { return y.c.sides[i].node != nil }

func (y *story) status(i int) api.Status {
	s, _ := y.c.Status(i)
	return s
}

func (y *story) isPrimary(i int) bool { return y.isUp(i) && y.status(i).Role == api.Primary }

func (y *story) isJoined(i int) bool { return y.isUp(i) && y.status(i).Conn >= api.Connected }

func (y *story) primary() int {
	for i := range 2 {
		if y.isPrimary(i) {
			return i
		}
	}
	return -1
}

func (y *story) moment(i int) moment {
	y.t.Helper()
	s, e := y.c.Status(i)
	return moment{e == api.OK, s, durable(y.t, y.c, i), logical(y.t, y.c, i)}
}

// do plays an event, and looks at what holds at every point.
func (y *story) do(format string, args ...any) []string {
	y.t.Helper()
	told := y.begin(format, args...)
	y.end(told)
	return told
}

func (y *story) begin(format string, args ...any) []string {
	y.t.Helper()
	for i := range 2 {
		y.before[i] = y.moment(i)
	}
	line := fmt.Sprintf(format, args...)
	y.epochs.ahead(line)
	y.lines = append(y.lines, line)
	told, e := y.c.Do(line)
	y.told = append(y.told, told)
	if e != api.OK {
		y.fatal("P1802: Do(%q): %d", line, e)
	}
	return told
}

func (y *story) end(told []string) {
	y.t.Helper()
	y.epochs.behind()
	for _, line := range told {
		w := strings.Fields(line)
		i := strings.Index(nodeNames, w[0])
		if line == w[0]+" lost power" {
			y.seen["lost power"]++
			y.lostPower(i)
		} else if id, err := strconv.Atoi(w[1]); err == nil {
			y.answer(i, id, w[2:])
		}
	}
	y.look()
}

// wasRefused tells the number of an event's refusal; 0: it was not refused.
func wasRefused(told []string) int {
	if len(told) == 1 {
		if w := strings.Fields(told[0]); len(w) == 4 && w[2] == "refused" {
			n, _ := strconv.Atoi(w[3])
			return n
		}
	}
	return 0
}

// plainStart: node b or both may be new, with whatever data.
func (y *story) plainStart() {
	y.t.Helper()
	count := y.dice.one(0, 0, 0, 1, 2)
	for i := 2 - count; i < 2; i++ {
		name := nodeName(i)
		y.wiped[i] = true
		y.do("crash %s %s", name, y.dice.picks())
		y.do("wipe %s", name)
		for range y.dice.below(4) {
			y.do("scribble %s %d %s", name, y.dice.below(len(y.blocks)), y.fill())
		}
		y.do("up %s", name)
	}
	if count == 2 && y.dice.below(8) > 0 {
		i := y.dice.below(2)
		if told := y.do("promote %s force", nodeName(i)); len(told) > 0 {
			y.fatal("P1705: promote by force: %q", told)
		}
		y.ever[i], y.last = true, i
		for b, value := range logical(y.t, y.c, i) {
			y.blocks[b] = []entry{{0, value}}
		}
	}
}

// fill: new ones, and some that come again.
func (y *story) fill() string {
	y.next++
	switch y.dice.below(10) {
	case 0:
		return "00"
	case 1:
		return fmt.Sprintf("%02x", y.dice.below(4))
	case 2:
		return fmt.Sprintf("%016x%016x", y.next, y.next)
	}
	return fmt.Sprintf("%08x", y.next)
}

// value: a fill as it is told.
func (y *story) value(fill string) string {
	for len(fill) > 2 && fill[:len(fill)/2] == fill[len(fill)/2:] {
		fill = fill[:len(fill)/2]
	}
	return fill
}

// lostPower: what a node had to answer is not answered any more. What a primary leaves is what the array has from now on.
func (y *story) lostPower(i int) {
	y.t.Helper()
	for id, a := range y.asks {
		if a.node == i {
			delete(y.asks, id)
		}
	}
	s := openCopy(y.t, y.c.sides[i].disk)
	if least := s.Next(0); least >= 0 && s.Super().Mark > least {
		y.fatal("P6: the recovered Mark is %d, and block %d is marked", s.Super().Mark, least)
	}
	now := blocksOf(durable(y.t, y.c, i), y.c.config.Size)
	y.epochs.lostPower(i, now)
	if y.free || y.last != i {
		return
	}
	for b, value := range now {
		list := y.blocks[b]
		if y.before[i].status.Role != api.Primary {
			list = list[len(list)-1:]
		}
		if !slices.ContainsFunc(list, func(e entry) bool { return e.value == value }) {
			y.fatal("P6: behind a crash block %d of %s has %s, of %v", b, nodeName(i), value, list)
		}
		if len(list) > 1 {
			y.seen["a crash of a primary with cached writes"]++
		}
		y.blocks[b] = []entry{{list[len(list)-1].id, value}}
	}
}

func (y *story) answer(i, id int, w []string) {
	y.t.Helper()
	a, known := y.asks[id]
	if !known || a.node != i {
		y.fatal("an answer to no operation: %s %d", nodeName(i), id)
	}
	delete(y.asks, id)
	y.seen[a.kind+" answered"]++
	switch {
	case a.kind == "read" && (len(w) != 2 || w[0] != "read"), a.kind != "read" && !slices.Equal(w, []string{"ok"}):
		y.fatal("%s %d is answered %v", a.kind, id, w)
	case a.kind == "read" && !y.free && w[1] != a.want:
		y.fatal("P3: read %d of block %d tells %s, want %s", id, a.block, w[1], a.want)
	case a.kind == "flush" && y.last == i:
		y.flushed(id)
	}
}

// flushed: what was handed over ahead of a flush that is answered is durable.
func (y *story) flushed(id int) {
	for b, list := range y.blocks {
		first := 0
		for k, e := range list {
			if e.id < id {
				first = k
			}
		}
		y.blocks[b] = list[first:]
	}
}

func (y *story) submit(i int) {
	y.t.Helper()
	kind := []string{"read", "read", "write", "write", "write", "write", "zero", "flush"}[y.dice.below(8)]
	b, fill := y.dice.below(len(y.blocks)), ""
	line := kind + " " + nodeName(i)
	switch kind {
	case "read":
		line += fmt.Sprint(" ", b)
	case "write":
		fill = y.fill()
		line += fmt.Sprint(" ", b, " ", fill)
	case "zero":
		fill = "00"
		line += fmt.Sprint(" ", b)
	}
	told := y.begin("%s", line)
	y.ids++
	if n := wasRefused(told); n != 0 {
		y.seen[fmt.Sprint("operation refused ", n)]++
		if n != int(api.ErrFull) {
			y.fatal("P10: %q: %q", line, told)
		}
		if kind == "write" && len(fill) == 8 && fill[:2] != fill[6:] {
			y.refused[fill] = 1
		}
		y.end(told)
		return
	}
	list := y.blocks[b]
	y.asks[y.ids] = ask{i, b, kind, list[len(list)-1].value}
	if fill != "" {
		y.blocks[b] = append(list, entry{y.ids, y.value(fill)})
		y.given[i][fmt.Sprint(b, y.value(fill))] = 1
		y.since[b] = 1
	}
	y.end(told)
}

// wrong hands over what must be refused.
func (y *story) wrong() {
	y.t.Helper()
	i := y.dice.below(2)
	fill := fmt.Sprintf("ee%06x", y.dice.below(1<<20)*2+1)
	y.refused[fill] = 1
	b, more := y.dice.below(len(y.blocks)), ""
	want := api.ErrOff
	switch {
	case y.isUp(i) && !y.isPrimary(i):
		want = api.ErrRole
	case y.isUp(i) && y.dice.below(2) == 0:
		b += len(y.blocks)
		want = api.ErrRange
	case y.isUp(i):
		more = fmt.Sprint(" ", y.dice.one(0, y.c.config.Size-1, y.c.config.Size+1, 4096))
		want = api.ErrSize
	}
	told := y.do("write %s %d %s%s", nodeName(i), b, fill, more)
	y.ids++
	if wasRefused(told) != int(want) {
		y.fatal("P10: %q, want %d", told, want)
	}
	y.seen[fmt.Sprint("refused ", int(want))]++
}

// mayPromote: P3's premise.
func (y *story) mayPromote(i int) bool {
	both := y.isUp(0) && y.isUp(1) && y.status(0).Conn == api.Connected && y.status(1).Conn == api.Connected
	return y.free || !y.isPrimary(1-i) && (y.last == i || y.last == -1 || both)
}

func (y *story) promote(i int) {
	y.t.Helper()
	if !y.mayPromote(i) {
		return
	}
	other := y.last == 1-i
	told := y.do("promote %s", nodeName(i))
	if len(told) > 0 {
		y.seen["promote: "+told[0][2:]]++
		return
	}
	if other {
		y.seen["the other node is promoted"]++
	}
	y.ever[i], y.last = true, i
}

func (y *story) demote(i int) {
	y.t.Helper()
	if told := y.do("demote %s", nodeName(i)); len(told) == 0 {
		y.seen["demote"]++
	}
}

// handOver: the roles change places, if nothing comes between.
func (y *story) handOver() {
	y.t.Helper()
	p := y.primary()
	if p < 0 {
		return
	}
	for range y.dice.below(12) {
		y.round()
	}
	y.demote(p)
	for range y.dice.below(4) {
		y.round()
	}
	y.promote(1 - p)
}

// outage: the net is gone for a while.
func (y *story) outage() {
	y.t.Helper()
	y.do("part")
	for range y.dice.below(2 * y.c.config.Dead) {
		y.round()
	}
	y.do("heal")
	for range y.dice.below(30) {
		y.round()
	}
}

// crash: the node starts anew at once, now and then twice.
func (y *story) crash(i int) {
	y.t.Helper()
	told := y.begin("crash %s %s", nodeName(i), y.dice.picks())
	y.lostPower(i)
	y.end(told)
	if y.dice.below(3) == 0 {
		y.startTwice(i)
	}
}

func (y *story) startTwice(i int) {
	y.t.Helper()
	name := nodeName(i)
	y.start(i)
	ask := []string{"status " + name, "gens " + name, "covered " + name, "why " + name, "progress " + name, "data " + name}
	once := play(y.t, y.c, ask...)
	told := y.begin("crash %s -", name)
	y.lostPower(i)
	y.end(told)
	y.start(i)
	if twice := play(y.t, y.c, ask...); !slices.Equal(once, twice) {
		y.fatal("P6: started once %q, twice %q", once, twice)
	}
	y.seen["started twice"]++
}

func (y *story) start(i int) {
	y.t.Helper()
	if told := y.do("up %s", nodeName(i)); len(told) > 0 {
		y.fatal("P6: up %s: %q", nodeName(i), told)
	}
}

// round: a calm one, event by event; but for the oldest frames, which may be kept back.
func (y *story) round() {
	y.t.Helper()
	for i := range 2 {
		for range len(y.c.sides[i].queue) - y.kept {
			y.do("deliver %s %d", nodeName(i), y.kept)
		}
	}
	y.do("tick a")
	y.do("tick b")
}

// lazyRound: most of the frames come, in whatever order; the others are kept back.
func (y *story) lazyRound() {
	y.t.Helper()
	for i := range 2 {
		for range len(y.c.sides[i].queue) * (2 + y.dice.below(3)) / 4 {
			y.do("deliver %s %d", nodeName(i), y.dice.below(1000))
		}
	}
	y.do("tick %s", nodeName(y.dice.below(2)))
	y.do("tick %s", nodeName(y.dice.below(2)))
}

func (y *story) event() {
	y.t.Helper()
	i := y.dice.below(2)
	name := nodeName(i)
	if p := y.primary(); p >= 0 && y.dice.below(3) < y.busy {
		if y.free && y.isPrimary(i) {
			p = i
		}
		y.submit(p)
		return
	}
	if !y.isUp(i) && y.dice.below(6) == 0 {
		y.start(i)
		return
	}
	switch y.dice.below(44) {
	case 0, 1, 2:
		y.do("connect %s", name)
	case 3:
		if y.dice.below(4) == 0 {
			y.do("disconnect %s", name)
		}
	case 4, 5, 6:
		y.promote(i)
	case 7:
		y.demote(i)
	case 8, 32:
		if p := y.primary(); p >= 0 {
			name = nodeName(p)
		}
		if told := y.do("verify %s", name); len(told) == 0 {
			y.seen["verify"]++
		}
	case 33:
		y.handOver()
	case 9:
		if y.isUp(i) && y.dice.below(3) == 0 {
			y.crash(i)
		}
	case 10:
		if y.dice.below(3) == 0 {
			y.do("fuse %s %d %s", name, y.dice.below(y.dice.one(3, 12, 40)), y.dice.picks())
		}
	case 11:
		y.do("%s", []string{"part", "heal"}[y.dice.below(2)])
	case 12, 13:
		y.do("drop %s %d", name, y.dice.below(1000))
	case 14, 15:
		y.do("copy %s %d", name, y.dice.below(1000))
	case 16, 17, 18, 19:
		y.do("deliver %s %d", name, y.dice.below(1000))
	case 20, 21:
		y.do("tick %s", name)
	case 22:
		y.wrong()
	case 23:
		for range y.dice.below(25) {
			y.round()
		}
	case 24, 25, 26, 27, 28, 29, 30:
		y.lazyRound()
	case 31:
		y.epochs.fork()
	case 34:
		y.kept = y.dice.one(0, 0, 3, 20)
	case 35:
		y.outage()
	case 38:
		if y.free { // two promotions that cross
			y.promote(0)
			y.promote(1)
		}
	case 36, 37:
		y.busy = y.dice.one(0, 1, 2, 2)
	default:
		y.round()
	}
}

// look sees to what holds at every point.
func (y *story) look() {
	y.t.Helper()
	y.lookCovered()
	y.lookApart()
	y.lookWritten()
	for i := range 2 {
		if y.isUp(i) {
			y.seen[fmt.Sprint("conn ", y.status(i).Conn)]++
			y.seen["why "+play(y.t, y.c, "why "+nodeName(i))[0][6:]]++
		}
	}
	if inSync(y.c) {
		y.seen["in sync"]++
		if !bytes.Equal(durable(y.t, y.c, 0), durable(y.t, y.c, 1)) {
			y.fatal("P5: in sync, and the durable data differ")
		}
		clear(y.since)
		for _, a := range y.asks {
			y.since[a.block] = 1
		}
	}
}

func (y *story) lookCovered() {
	y.t.Helper()
	if list := uncovered(y.t, y.c); len(list) > 0 {
		y.fatal("P4: blocks %v differ and are not covered", list)
	}
}

// lookApart: two that were primary apart are never joined again, and greet each other to no avail. (One alone may come to the end of a greeting from which the other has gone.)
func (y *story) lookApart() {
	y.t.Helper()
	split := y.apart[0] && y.apart[1] && y.c.config.Sb0+y.c.config.Sb1 == 0
	if y.isJoined(0) && y.isJoined(1) {
		if split {
			y.fatal("P8: a split brain was joined")
		}
		y.apart = [2]bool{}
	}
	line := y.lines[len(y.lines)-1]
	for i := range 2 {
		now := y.status(i)
		if split && y.before[i].status.Conn == api.Greeting && y.isUp(i) && now.Conn == api.StandAlone && strings.HasPrefix(line, "deliver") {
			y.seen["split brain"]++
			if why := play(y.t, y.c, "why "+nodeName(i)); why[0] != nodeName(i)+" why 154" {
				y.fatal("P8: a split brain ends with %q", why)
			}
			y.ownWrites("P8", i)
		}
		if y.isPrimary(i) && !y.isJoined(i) {
			y.apart[i] = true
		}
	}
}

// lookWritten: what a node has that is up to date and primary changes by its clients' writes alone; what was refused is nowhere.
func (y *story) lookWritten() {
	y.t.Helper()
	for i := range 2 {
		if y.isPrimary(i) && y.status(i).Conn == api.SyncTarget {
			y.fatal("P9: a primary is a target")
		}
		if was := y.before[i]; was.up && was.status.Role == api.Primary && was.status.Disk == api.UpToDate {
			y.ownWrites("P9", i)
		}
		if now := durable(y.t, y.c, i); !bytes.Equal(now, y.before[i].durable) {
			for b, value := range blocksOf(now, y.c.config.Size) {
				if y.refused[value] > 0 {
					y.fatal("P10: block %d of %s has %s, which was refused", b, nodeName(i), value)
				}
			}
		}
	}
}

// ownWrites: what the event has changed was handed over by the node's own clients. (What a loss of power leaves P6 tells.)
func (y *story) ownWrites(promise string, i int) {
	y.t.Helper()
	if !y.isUp(i) {
		return
	}
	for b, value := range logical(y.t, y.c, i) {
		if value != y.before[i].blocks[b] && y.given[i][fmt.Sprint(b, value)] == 0 {
			y.fatal("%s: block %d of %s has changed to %s by another hand", promise, b, nodeName(i), value)
		}
	}
}

// become: calm rounds bring the two together.
func (y *story) become() {
	y.t.Helper()
	c := y.c.config
	if y.ever[0] && y.ever[1] || !y.ever[0] && !y.ever[1] && y.wiped[0] && y.wiped[1] || c.Dead < 4*c.Resend+4 {
		return
	}
	y.do("heal")
	for i := range 2 {
		if y.isUp(i) { // a fuse that no script burns down
			y.do("fuse %s 999999999 -", nodeName(i))
		} else {
			y.start(i)
		}
		if y.status(i).Conn == api.StandAlone {
			y.do("connect %s", nodeName(i))
		}
	}
	for _, b := range differing(y.t, y.c) {
		y.since[b] = 1
	}
	allowed := map[int]int{}
	for b := range y.since {
		allowed[b] = 1
	}
	y.kept = 0
	busy := y.dice.below(2) == 0
	y.epochs.shipped = map[int]int{}
	for k := 0; k < 10 || !y.settled(); k++ {
		if k == bound(c) {
			y.fatal("P7: not in sync behind %d calm rounds", k)
		}
		if busy && k < 10 && y.primary() >= 0 {
			y.submit(y.primary())
			for b := range y.since {
				allowed[b] = 1
			}
		}
		y.round()
	}
	for range 3 * c.Dead {
		y.round()
		if !y.settled() {
			y.fatal("P7: it does not stay so")
		}
	}
	for b := range y.epochs.shipped {
		y.seen["shipped in calm"]++
		if allowed[b] == 0 {
			y.fatal("P7: data of block %d were sent", b)
		}
	}
	y.seen["calm"]++
}

// settled: what calm rounds come to.
func (y *story) settled() bool {
	for i := range 2 {
		s := y.status(i)
		if s.Conn != api.Connected || s.Disk != api.UpToDate || s.Pdsk != api.UpToDate || s.OutOfSync > 0 {
			return false
		}
	}
	return len(y.asks) == 0
}
