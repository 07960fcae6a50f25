package bio

import (
	"bytes"
	"slices"
	"testing"

	"replica/api"
	"replica/disk"
	"replica/node"
)

// nodes: two nodes, the first of them primary, a queue over that one, and one byte array to which all requests were done in their order.
type nodes struct {
	t      *testing.T
	dice   dice
	c      api.Config
	d      [2]*disk.Disk
	n      [2]*node.Node // nil: down
	way    [2][][]byte   // frames
	parted bool
	q      *Queue
	came   []api.Answer // of the primary, of which the queue was not told
	array  []byte
	want   map[int][]byte // by requests without a reply
	ids    int
	seen   map[string]int
}

// newNodes gives nodes of which the second is clean or new. (It is never new behind that: its sessions would have numbers that came before.)
func newNodes(t *testing.T, c api.Config, depth int, clean bool, d dice, seen map[string]int) *nodes {
	t.Helper()
	y := &nodes{t: t, dice: d, c: c, want: map[int][]byte{}, seen: seen}
	y.fresh(0, true)
	y.fresh(1, clean)
	y.up(0)
	y.up(1)
	y.step(0, func(n *node.Node) (api.NodeOut, api.Errno) { return n.Promote(false) })
	y.q = made(t, c.Blocks, c.Size, depth).Queue
	y.array = make([]byte, c.Blocks*c.Size)
	return y
}

// resource rolls one, with as little room as it may have or more.
func (d *dice) resource() api.Config {
	c := api.Config{
		Name: "r0", Blocks: 1 + d.below(14), Size: d.one(128, 128, 256, 1024), Slots: 1 + d.below(3), Protocol: 1 + d.below(3),
		Window: d.one(1, 4, 8), Resend: 1 + d.below(3), Dead: 20, Epoch: d.one(1, 2, 5, 16), Queue: d.one(1, 2, 4, 32),
		Rate: 1 + d.below(4), Burst: 4 + d.below(5), Ahead: 1 + d.below(4),
	}
	c.Backlog = 16 + 2*c.Ahead + 2*c.Queue + 8*c.Epoch + d.one(0, 0, 40)
	return c
}

func (y *nodes) fresh(i int, clean bool) {
	y.t.Helper()
	var e api.Errno
	if y.d[i], e = node.Disk(y.c, clean, 1024); e != api.OK {
		y.t.Fatalf("Disk: %v", e)
	}
}

func (y *nodes) up(i int) {
	y.t.Helper()
	var e api.Errno
	if y.n[i], e = node.New(y.d[i], y.c, i); e != api.OK {
		y.t.Fatalf("New: %v", e)
	}
}

// step does one step of a node, if it is up.
func (y *nodes) step(i int, call func(n *node.Node) (api.NodeOut, api.Errno)) api.Errno {
	if y.n[i] == nil {
		return api.ErrOff
	}
	out, e := call(y.n[i])
	if !y.parted {
		y.way[1-i] = append(y.way[1-i], out.Frames...)
	}
	if i == 0 {
		y.came = append(y.came, out.Answers...)
	}
	return e
}

func (y *nodes) tick(i int) {
	y.step(i, func(n *node.Node) (api.NodeOut, api.Errno) { return n.Tick(), api.OK })
}

func (y *nodes) take(i int, frame []byte) {
	y.step(i, func(n *node.Node) (api.NodeOut, api.Errno) { return n.Take(frame), api.OK })
}

// frame takes one out of the row towards a node.
func (y *nodes) frame(i int) []byte {
	place := 0
	if y.dice.below(3) == 0 {
		place = y.dice.below(len(y.way[i]))
	}
	frame := y.way[i][place]
	y.way[i] = slices.Delete(y.way[i], place, place+1)
	return frame
}

// request hands the queue a request, and notes what it is to be replied.
func (y *nodes) request() {
	y.t.Helper()
	y.ids++
	y.ask(y.dice.request(y.ids, y.c.Blocks, y.c.Size))
}

func (y *nodes) ask(r api.Request) {
	y.t.Helper()
	own := y.array[r.Offset : r.Offset+r.Length]
	y.want[r.Id] = nil
	switch r.Kind {
	case api.ReqRead:
		y.want[r.Id] = bytes.Clone(own)
	case api.ReqWrite:
		copy(own, r.Data)
	case api.ReqDiscard:
		clear(own)
	}
	y.given(y.q.Request(r))
}

// given hands the primary what the queue gave, and holds the replies against the array.
func (y *nodes) given(ops []api.Op, list []api.Reply, e api.Errno) {
	y.t.Helper()
	if e != api.OK {
		y.t.Fatalf("the queue refuses: %v", e)
	}
	for _, r := range list {
		want, in := y.want[r.Id]
		if !in || r.Err != api.OK || !bytes.Equal(r.Data, want) {
			y.t.Fatalf("P2111: the reply to %d: %v, not the array's bytes", r.Id, r.Err)
		}
		delete(y.want, r.Id)
	}
	for _, op := range ops {
		if e := y.step(0, func(n *node.Node) (api.NodeOut, api.Errno) { return n.Submit(op) }); e != api.OK {
			y.t.Fatalf("P2111: operation %+v is refused: %v", op, e)
		}
	}
	y.seen[[]string{"alone", "connecting", "greeting", "connected", "source", "target", "verify"}[y.n[0].Status().Conn]] += len(ops)
}

// tell tells the queue of an answer of the primary.
func (y *nodes) tell() {
	y.t.Helper()
	if len(y.came) > 0 {
		place := y.dice.below(len(y.came))
		a := y.came[place]
		y.came = slices.Delete(y.came, place, place+1)
		y.given(y.q.Answered(a))
	}
}

// net does something to the frames on their way to a node.
func (y *nodes) net(i int) {
	if len(y.way[i]) == 0 {
		return
	}
	frame := y.frame(i)
	switch y.dice.below(25) {
	case 0, 1:
		y.seen["lost"]++
	case 2, 3:
		y.way[i] = append(y.way[i], frame, frame)
	case 4:
		bad := bytes.Clone(frame)
		bad[y.dice.below(len(bad))] ^= 1 << y.dice.below(8)
		y.way[i] = append(y.way[i], bad)
	default:
		y.take(i, frame)
	}
}

// operate does what operators do, but to the primary's power and role.
func (y *nodes) operate() {
	y.t.Helper()
	d := &y.dice
	switch d.below(16) {
	case 0:
		y.parted = true
	case 1, 2, 3:
		y.parted = false
	case 4:
		y.step(d.below(2), (*node.Node).Disconnect)
	case 5:
		if y.n[1] != nil {
			y.n[1] = nil
			y.d[1].Crash(d.some(d.below(5)))
			y.seen["crash"]++
		}
	case 6, 7:
		if y.n[1] == nil {
			y.up(1)
		}
	case 8, 9, 10:
		y.step(0, (*node.Node).Verify)
	default:
		i := d.below(2)
		y.step(i, func(n *node.Node) (api.NodeOut, api.Errno) { return n.Connect(i == 1 && d.below(3) == 0) })
	}
}

// story begins with nodes that are joined, or do not know each other yet.
func (y *nodes) story() {
	y.t.Helper()
	if y.dice.below(3) > 0 {
		y.calm()
	}
	busy := 1 + y.dice.below(6)
	trouble := y.dice.one(1, 1, 5, 20)
	for range 800 {
		switch roll := y.dice.below(24); {
		case roll < busy && len(y.want) < api.MaxRequests:
			y.request()
		case roll < 8:
			y.tell()
		case roll < 9:
			if y.dice.below(20) < trouble {
				y.operate()
			}
		case roll < 11:
			y.tick(y.dice.below(2))
		default:
			y.net(y.dice.below(2))
		}
	}
}

// rounds: calm ones, as chapter 18 says, in which the queue is told of all answers.
func (y *nodes) rounds(count int) {
	y.t.Helper()
	for range count {
		for i := range 2 {
			for range len(y.way[i]) {
				frame := y.way[i][0]
				y.way[i] = y.way[i][1:]
				y.take(i, frame)
			}
		}
		y.tick(0)
		y.tick(1)
		for len(y.came) > 0 {
			y.tell()
		}
	}
}

// calm heals all, and gives the nodes time enough for the resyncs and for what is open.
func (y *nodes) calm() {
	y.t.Helper()
	y.parted = false
	if y.n[1] == nil {
		y.up(1)
	}
	for i := range 2 {
		y.step(i, func(n *node.Node) (api.NodeOut, api.Errno) { return n.Connect(false) })
	}
	c := y.c
	enough := 6*(c.Blocks+c.Queue+20) + 16*c.Epoch + 2*c.Dead + 4*c.Resend
	for range 60 {
		y.rounds(enough)
		if open, _ := y.q.Pending(); open == 0 {
			return
		}
	}
}

// settled: every request was replied to, and the disks have the array's bytes.
func (y *nodes) settled() {
	y.t.Helper()
	y.calm()
	y.ids++
	y.ask(api.Request{Id: y.ids, Kind: api.ReqSync})
	y.calm()
	if open, underWay := y.q.Pending(); open+underWay+len(y.want) > 0 {
		y.t.Fatalf("P2111: %d requests without a reply, %d operations under way: %+v", open, underWay, y.n[0].Status())
	}
	image := y.d[0].Image()[:len(y.array)]
	if !bytes.Equal(image, y.array) {
		y.t.Fatal("P2111: the primary's disk has other bytes than the array")
	}
	s := y.n[0].Status()
	if s.Conn == api.Connected && s.Disk == api.UpToDate && s.Pdsk == api.UpToDate && s.OutOfSync+s.Unacked+s.Epochs == 0 {
		y.seen["in sync"]++
		if !bytes.Equal(y.d[1].Image()[:len(y.array)], y.array) {
			y.t.Fatal("P2111: the backup's disk has other bytes than the array")
		}
	}
}

// TestStoriesOfNodes: P2111.
func TestStoriesOfNodes(t *testing.T) {
	seen := map[string]int{}
	for n := range *storyCount {
		d := dice(*storySeed + n)
		c := d.resource()
		y := newNodes(t, c, d.one(1, c.Queue, c.Queue, 1+d.below(c.Queue)), d.below(4) > 0, d, seen)
		y.story()
		y.settled()
	}
	for _, what := range []string{"alone", "connecting", "greeting", "connected", "source", "verify", "lost", "crash", "in sync"} {
		if seen[what] == 0 {
			t.Errorf("the stories never met: %s", what)
		}
	}
	if testing.Verbose() {
		t.Log(seen)
	}
}

// TestNodesPlain: requests over a primary whose backup is in sync, under each protocol; the backup has them too.
func TestNodesPlain(t *testing.T) {
	for protocol := api.ProtoA; protocol <= api.ProtoC; protocol++ {
		c := api.Config{Name: "r0", Blocks: 8, Size: 128, Slots: 2, Protocol: protocol, Window: 8, Backlog: 256, Resend: 3, Dead: 20, Epoch: 16, Queue: 4, Rate: 4, Burst: 8, Ahead: 4}
		y := newNodes(t, c, 4, true, 1, map[string]int{})
		y.calm()
		data := run(700, 3)
		y.ask(api.Request{Id: 1, Kind: api.ReqWrite, Offset: 100, Length: 700, Data: data})
		y.ask(api.Request{Id: 2, Kind: api.ReqDiscard, Offset: 300, Length: 300})
		y.ask(api.Request{Id: 3, Kind: api.ReqRead, Offset: 90, Length: 800})
		y.ask(api.Request{Id: 4, Kind: api.ReqSync})
		y.settled()
		if y.seen["in sync"] != 1 || y.array[100] != 3 || y.array[300] != 0 {
			t.Errorf("P2111: protocol %d: the nodes are not in sync", protocol)
		}
	}
}
