package inspect

import (
	"flag"
	"fmt"
	"testing"

	"replica/api"
	"replica/node"
)

var (
	storyCount = flag.Int("stories", 80, "how many random stories each test of them plays")
	storySeed  = flag.Int("seed", 0, "other random stories")
)

// story: two nodes from clean disks on, of which only one is ever made primary, and all that may happen to them.
type story struct {
	*couple
	dice    dice
	primary int
	ids     int
	busy    int // how much of the time is the clients'
	log     []string
	met     map[string]int
	looked  moment
}

// moment: as long as it is the same no durable byte has changed.
type moment struct {
	counts  [2]api.Counts
	crashes int
}

func newStory(t testing.TB, seed int, c api.Config, met map[string]int) *story {
	y := &story{couple: newCouple(t, c, clean(t, c), clean(t, c)), dice: dice(seed), met: met}
	for range 3 {
		y.dice.below(2)
	}
	y.primary, y.busy = y.dice.below(2), y.dice.below(4)
	y.behind = y.look
	return y
}

func (y *story) moment() moment {
	m := moment{crashes: y.crashes}
	for i, d := range y.d {
		m.counts[i] = d.Counts()
		m.counts[i].Reads, m.counts[i].Writes = 0, 0
	}
	return m
}

// look: P2006, at every point.
func (y *story) look() {
	y.t.Helper()
	if y.moment() == y.looked {
		return
	}
	y.looked = y.moment()
	f, e := Forecast(y.d[0], y.d[1], y.c)
	if e != api.OK || f.Err != api.OK || len(f.Hidden) > 0 {
		y.fatal(fmt.Sprintf("P2006: Forecast: %+v, %v", f, e))
	}
	y.met[fmt.Sprint("rule ", f.Verdict.Rule)]++
	if len(f.Ship) > 0 {
		y.met[fmt.Sprint("to be shipped by kind ", f.Verdict.Kind)]++
	}
}

func (y *story) fatal(text string) {
	y.t.Helper()
	for _, line := range y.log[max(0, len(y.log)-80):] {
		y.t.Log(line)
	}
	for i := range 2 {
		m, e := Look(y.d[i], y.c)
		y.t.Logf("disk %d: %+v, %v", i, m, e)
		if y.n[i] != nil {
			y.t.Logf("node %d: %+v, why %v, %+v", i, y.n[i].Status(), y.n[i].Why(), y.n[i].Gens())
		}
	}
	y.t.Fatal(text)
}

func (y *story) note(words ...any) { y.log = append(y.log, fmt.Sprintln(words...)) }

// event lets something happen.
func (y *story) event() {
	y.t.Helper()
	i := y.dice.below(2)
	switch k := y.dice.below(40); {
	case y.n[i] == nil:
		if k < 12 {
			y.note("up", i)
			y.up(i)
		}
	case k == 0:
		picks := y.dice.picks()
		y.note("crash", i, picks)
		y.met["crash"]++
		y.crash(i, picks)
	case k == 1:
		y.picks[i] = y.dice.picks()
		steps := y.dice.below(12)
		y.note("fuse", i, steps, y.picks[i])
		y.d[i].Fuse(steps)
	case k < 5:
		y.operator(i)
	case k < 9:
		discard := y.dice.below(4) == 0
		y.note("connect", i, discard, "=", y.connect(i, discard))
	case k < 12:
		y.note("net", i)
		y.net(i)
	case k < 13+5*y.busy:
		y.submit(i)
	default:
		count := y.dice.one(1, 1, 1, 2, 3, 10, 30)
		y.note("rounds", count)
		y.rounds(count)
	}
}

// operator: the calls but connect; only one node is ever made primary.
func (y *story) operator(i int) {
	y.t.Helper()
	calls := []struct {
		name string
		do   func(n *node.Node) (api.NodeOut, api.Errno)
	}{
		{"disconnect", (*node.Node).Disconnect},
		{"demote", (*node.Node).Demote},
		{"verify", (*node.Node).Verify},
		{"verify", (*node.Node).Verify},
		{"promote", func(n *node.Node) (api.NodeOut, api.Errno) { return n.Promote(false) }},
		{"promote", func(n *node.Node) (api.NodeOut, api.Errno) { return n.Promote(false) }},
		{"promote", func(n *node.Node) (api.NodeOut, api.Errno) { return n.Promote(true) }},
	}
	x := calls[y.dice.below(len(calls))]
	if x.name == "promote" {
		i = y.primary
	}
	e := y.call(i, x.do)
	y.note(x.name, i, "=", e)
	if e == api.OK {
		y.met[x.name]++
	}
}

// net: what it does to the frames towards a node, or to all.
func (y *story) net(i int) {
	if y.dice.below(6) == 0 {
		y.parted = !y.parted
		y.note("parted", y.parted)
		return
	}
	for range y.dice.one(1, 1, 2, 4) {
		if len(y.way[i]) == 0 {
			return
		}
		place := y.dice.below(len(y.way[i]))
		switch y.dice.below(4) {
		case 0:
			y.way[i] = append(y.way[i], y.way[i][place])
		case 1:
			y.way[i] = append(y.way[i][:place:place], y.way[i][place+1:]...)
		default:
			y.deliver(i, place)
		}
	}
}

// submit: mostly writes, mostly at the node that may be primary.
func (y *story) submit(i int) {
	y.t.Helper()
	if y.dice.below(4) > 0 {
		i = y.primary
	}
	for range y.dice.one(1, 1, 2, 4, 8) {
		y.ids++
		op := api.Op{Id: y.ids, Kind: y.dice.one(api.OpWrite, api.OpWrite, api.OpWrite, api.OpZero, api.OpFlush, api.OpRead)}
		if op.Kind != api.OpFlush {
			op.Block = y.dice.below(y.c.Blocks)
		}
		if op.Kind == api.OpWrite {
			op.Data = fill(y.c, y.dice.below(256))
		}
		e := y.call(i, func(n *node.Node) (api.NodeOut, api.Errno) { return n.Submit(op) })
		y.note("submit", i, op.Id, op.Kind, op.Block, "=", e)
		if e == api.OK {
			y.met["submit"]++
		}
	}
}

// storyResource: small ones, so that the slots of the log and the queues are full now and then.
func storyResource(seed int) api.Config {
	roll := dice(seed * 11)
	roll.below(2)
	form := [][3]int{{8, 128, 2}, {8, 128, 1}, {21, 128, 5}, {5, 256, 4}, {33, 128, 3}}[roll.below(5)]
	c := sized(form[0], form[1], form[2])
	c.Protocol = roll.one(api.ProtoA, api.ProtoB, api.ProtoC)
	c.Queue, c.Epoch, c.Window = roll.one(4, 32), roll.one(2, 16), roll.one(2, 8)
	c.Rate, c.Burst, c.Ahead = roll.one(1, 4), roll.one(1, 8), roll.one(1, 4)
	c.Sb0, c.Sb1 = roll.one(0, 1, 2, 3, 4), roll.one(0, 5, 6)
	return c
}

// P2006: nothing is hidden, whatever happens. P2005: what is foretold comes.
func TestStories(t *testing.T) {
	met := map[string]int{}
	for k := range *storyCount {
		seed := *storySeed + k
		y := newStory(t, seed, storyResource(seed), met)
		for step := range 200 {
			y.event()
			if step%25 == 0 {
				_, kind := foretold(t, fmt.Sprint("seed ", seed, ", step ", step), y.d[0], y.d[1], y.c)
				met[kind]++
			}
		}
		met["loss of power"] += y.losses
		for conn := range 8 {
			if (y.seen[0]|y.seen[1])>>conn&1 == 1 {
				met[fmt.Sprint("state ", conn)]++
			}
		}
	}
	for _, way := range []string{"rule 3", "rule 6", "rule 9", "rule 11", "shipped", "the same", "nothing to do", "crash", "promote", "demote", "verify", "disconnect", "submit", "loss of power", "state 3", "state 4", "state 5", "state 6", "state 7"} {
		if met[way] == 0 {
			t.Errorf("%q was not met: %v", way, met)
		}
	}
}
