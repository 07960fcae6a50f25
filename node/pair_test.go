package node

import (
	"bytes"
	"slices"
	"testing"

	"replica/api"
	"replica/disk"
	"replica/store"
	"replica/wire"
)

type dice uint64

func (d *dice) below(n int) int {
	*d = *d*6364136223846793005 + 1442695040888963407
	return int(uint64(*d) >> 33 % uint64(n))
}

func (d *dice) one(list ...int) int { return list[d.below(len(list))] }

func (d *dice) picks() []byte {
	picks := make([]byte, d.below(7))
	for i := range picks {
		picks[i] = byte(d.below(256))
	}
	return picks
}

// resource is that of the chapter's examples.
func resource() api.Config {
	return api.Config{Name: "r0", Blocks: 8, Size: 128, Slots: 2, Protocol: api.ProtoC, Window: 8, Backlog: 256, Resend: 3, Dead: 20, Epoch: 16, Queue: 32, Rate: 4, Burst: 8, Ahead: 4}
}

func with(change func(c *api.Config)) api.Config {
	c := resource()
	change(&c)
	return c
}

func fill(size int, b ...byte) []byte {
	return bytes.Repeat(b, size/len(b)+1)[:size]
}

// machine: what a node and its model have in common.
type machine interface {
	Connect(discard bool) (api.NodeOut, api.Errno)
	Disconnect() (api.NodeOut, api.Errno)
	Promote(force bool) (api.NodeOut, api.Errno)
	Demote() (api.NodeOut, api.Errno)
	Verify() (api.NodeOut, api.Errno)
	Invalidate() (api.NodeOut, api.Errno)
	Submit(op api.Op) (api.NodeOut, api.Errno)
	Take(frame []byte) api.NodeOut
	Tick() api.NodeOut
	Status() api.Status
	Progress() api.Progress
	Gens() api.Gens
	Covered() []int
	Why() api.Errno
}

// pair: two nodes, their disks, and the frames on the way to each.
type pair struct {
	t       *testing.T
	c       api.Config
	d       [2]*disk.Disk
	n       [2]*Node // nil: down
	way     [2][][]byte
	parted  bool
	picks   [2][]byte // of the fuse
	answers []api.Answer
	ids     int
	lost    func(i int) // told of a loss of power

	models bool          // each node has a model beside it, with a disk of its own
	md     [2]*disk.Disk // the models'
	m      [2]*plain
	seen   map[string]int
}

func newPair(t *testing.T, c api.Config, clean bool) *pair {
	t.Helper()
	p := &pair{t: t, c: c, lost: func(int) {}, seen: map[string]int{}}
	p.begin(clean)
	return p
}

// newModelled gives a pair with models.
func newModelled(t *testing.T, c api.Config, clean bool, seen map[string]int) *pair {
	t.Helper()
	p := &pair{t: t, c: c, lost: func(int) {}, seen: seen, models: true}
	p.begin(clean)
	return p
}

func (p *pair) begin(clean bool) {
	p.t.Helper()
	for i := range 2 {
		p.format(i, clean)
		p.up(i)
	}
}

// format gives a node a new disk.
func (p *pair) format(i int, clean bool) {
	p.t.Helper()
	var e api.Errno
	if p.d[i], e = Disk(p.c, clean, 1024); e != api.OK {
		p.t.Fatalf("P1701: Disk: %v", e)
	}
	if p.models {
		p.md[i], _ = Disk(p.c, clean, 1024)
	}
}

// onDisks does something to a node's disk, and to its model's.
func (p *pair) onDisks(i int, do func(d *disk.Disk)) {
	do(p.d[i])
	if p.models {
		do(p.md[i])
	}
}

// up starts a node; false: its power is gone.
func (p *pair) up(i int) bool {
	p.t.Helper()
	n, e := New(p.d[i], p.c, i)
	if p.models {
		m, em := newPlain(p.md[i], p.c, i, p.seen)
		if e != em || p.d[i].On() != p.md[i].On() {
			p.t.Fatalf("P1702: New: %v, the model's %v", e, em)
		}
		p.m[i] = m
	}
	if !p.d[i].On() {
		if n != nil || e != api.ErrPower {
			p.t.Fatalf("P1702: New without power: %v", e)
		}
		p.crash(i, p.picks[i])
		return false
	}
	if e != api.OK {
		p.t.Fatalf("P1702: New of node %d: %v", i, e)
	}
	p.n[i] = n
	return true
}

func (p *pair) fuse(i, steps int, picks []byte) {
	p.picks[i] = picks
	p.onDisks(i, func(d *disk.Disk) { d.Fuse(steps) })
}

func (p *pair) crash(i int, picks []byte) {
	p.n[i], p.m[i] = nil, nil
	p.onDisks(i, func(d *disk.Disk) { d.Crash(picks) })
	p.lost(i)
}

// call does one step of a node, and of its model.
func (p *pair) call(i int, step func(n machine) (api.NodeOut, api.Errno)) api.Errno {
	p.t.Helper()
	n := p.n[i]
	o, e := step(n)
	if p.m[i] != nil {
		om, em := step(p.m[i])
		p.same(i, o, e, om, em)
	}
	return p.did(i, o, e)
}

// did puts on the way what a node gave, and notes its answers.
func (p *pair) did(i int, o api.NodeOut, e api.Errno) api.Errno {
	p.t.Helper()
	if !p.d[i].On() {
		if len(o.Frames)+len(o.Answers) > 0 || e != api.ErrOff {
			p.t.Fatalf("Power: %d frames, %d answers, %v", len(o.Frames), len(o.Answers), e)
		}
		p.crash(i, p.picks[i])
		return api.ErrOff
	}
	if e != api.OK && len(o.Frames)+len(o.Answers) > 0 {
		p.t.Fatalf("%d frames, %d answers beside %v", len(o.Frames), len(o.Answers), e)
	}
	if !p.parted {
		p.way[1-i] = append(p.way[1-i], o.Frames...)
	}
	p.answers = append(p.answers, o.Answers...)
	return e
}

// same holds a node against its model.
func (p *pair) same(i int, o api.NodeOut, e api.Errno, om api.NodeOut, em api.Errno) {
	p.t.Helper()
	n, m := p.n[i], p.m[i]
	switch {
	case e != em:
		p.t.Fatalf("node %d: %d, want %d", i, e, em)
	case !slices.EqualFunc(o.Frames, om.Frames, bytes.Equal):
		p.t.Fatalf("node %d: frames %s, want %s", i, tellFrames(o.Frames), tellFrames(om.Frames))
	case !slices.EqualFunc(o.Answers, om.Answers, sameAnswer):
		p.t.Fatalf("node %d: answers %v, want %v", i, o.Answers, om.Answers)
	case n.Status() != m.Status():
		p.t.Fatalf("node %d: %+v, want %+v", i, n.Status(), m.Status())
	case n.Progress() != m.Progress():
		p.t.Fatalf("node %d: %+v, want %+v", i, n.Progress(), m.Progress())
	case n.Gens() != m.Gens() || n.Why() != m.Why() || !slices.Equal(n.Covered(), m.Covered()):
		p.t.Fatalf("node %d: %v %v %v, want %v %v %v", i, n.Gens(), n.Why(), n.Covered(), m.Gens(), m.Why(), m.Covered())
	}
	a, b := p.d[i], p.md[i]
	ca, cb := a.Counts(), b.Counts()
	if a.On() != b.On() || !bytes.Equal(a.Image(), b.Image()) || !slices.Equal(a.Cached(), b.Cached()) || ca.Through != cb.Through || ca.Flushes != cb.Flushes || ca.Writes != cb.Writes {
		p.t.Fatalf("node %d: its disk is not as the model's", i)
	}
}

func sameAnswer(a, b api.Answer) bool {
	return a.Id == b.Id && a.Err == b.Err && bytes.Equal(a.Data, b.Data)
}

// tellFrames: what frames carry, in words.
func tellFrames(frames [][]byte) string {
	text := ""
	for _, b := range frames {
		f, e := wire.DecodeFrame(b)
		if e != api.OK {
			return text + " (no frame)"
		}
		text += " " + []string{"", "Open", "Data", "Ack", "Close"}[f.Kind]
		if p, _, e := wire.DecodePacket(f.Payload); f.Kind == api.FrameData && e == api.OK {
			name, _ := wire.Name(p.Cmd)
			text += "(" + name + ")"
		}
	}
	return text
}

func (p *pair) connect(i int, discard bool) api.Errno {
	p.t.Helper()
	return p.call(i, func(n machine) (api.NodeOut, api.Errno) { return n.Connect(discard) })
}

func (p *pair) disconnect(i int) api.Errno {
	p.t.Helper()
	return p.call(i, machine.Disconnect)
}

func (p *pair) promote(i int, force bool) api.Errno {
	p.t.Helper()
	return p.call(i, func(n machine) (api.NodeOut, api.Errno) { return n.Promote(force) })
}

func (p *pair) demote(i int) api.Errno {
	p.t.Helper()
	return p.call(i, machine.Demote)
}

func (p *pair) verify(i int) api.Errno {
	p.t.Helper()
	return p.call(i, machine.Verify)
}

func (p *pair) invalidate(i int) api.Errno {
	p.t.Helper()
	return p.call(i, machine.Invalidate)
}

// submit hands an operation over under the next id.
func (p *pair) submit(i, kind, block int, data []byte) (int, api.Errno) {
	p.t.Helper()
	p.ids++
	op := api.Op{Id: p.ids, Kind: kind, Block: block, Data: data}
	return op.Id, p.call(i, func(n machine) (api.NodeOut, api.Errno) { return n.Submit(op) })
}

func (p *pair) write(i, block int, b byte) api.Errno {
	p.t.Helper()
	_, e := p.submit(i, api.OpWrite, block, fill(p.c.Size, b))
	return e
}

// quiet makes a step that has no error one that tells of the power as the others do.
func quiet(n machine, o api.NodeOut) (api.NodeOut, api.Errno) {
	if n.Status() == (api.Status{}) {
		return o, api.ErrOff
	}
	return o, api.OK
}

func (p *pair) take(i int, frame []byte) {
	p.t.Helper()
	p.call(i, func(n machine) (api.NodeOut, api.Errno) { return quiet(n, n.Take(frame)) })
}

// deliver hands a node the frame at a place of its row.
func (p *pair) deliver(i, place int) {
	p.t.Helper()
	if len(p.way[i]) == 0 {
		return
	}
	place %= len(p.way[i])
	frame := p.way[i][place]
	p.way[i] = slices.Delete(p.way[i], place, place+1)
	if p.n[i] != nil {
		p.take(i, frame)
	}
}

func (p *pair) tick(i int) {
	p.t.Helper()
	if p.n[i] != nil {
		p.call(i, func(n machine) (api.NodeOut, api.Errno) { return quiet(n, n.Tick()) })
	}
}

// rounds: calm ones.
func (p *pair) rounds(k int) {
	p.t.Helper()
	for range k {
		for i := range 2 {
			for range len(p.way[i]) {
				p.deliver(i, 0)
			}
		}
		p.tick(0)
		p.tick(1)
	}
}

func (p *pair) must(what string, e api.Errno) {
	p.t.Helper()
	p.want(what, e, api.OK)
}

func (p *pair) want(what string, e, want api.Errno) {
	p.t.Helper()
	if e != want {
		p.t.Fatalf("%s: %d, want %d", what, e, want)
	}
}

func (p *pair) conns(what string, a, b int) {
	p.t.Helper()
	if x, y := p.n[0].Status().Conn, p.n[1].Status().Conn; x != a || y != b {
		p.t.Fatalf("%s: the nodes are %d and %d, want %d and %d (why %d, %d)", what, x, y, a, b, p.n[0].Why(), p.n[1].Why())
	}
}

// join brings two nodes together, and on until nothing is out of sync.
func (p *pair) join() {
	p.t.Helper()
	p.must("P1703", p.connect(0, false))
	p.must("P1703", p.connect(1, false))
	p.rounds(60)
	p.inSync("joined")
}

// calm tells whether both nodes say that they are in sync.
func (p *pair) calm() bool {
	for i := range 2 {
		if p.n[i] == nil {
			return false
		}
		s := p.n[i].Status()
		if s.Conn != api.Connected || s.Disk != api.UpToDate || s.Pdsk != api.UpToDate || s.OutOfSync+s.Unacked+s.Epochs > 0 {
			return false
		}
	}
	return true
}

func (p *pair) inSync(what string) {
	p.t.Helper()
	if !p.calm() {
		p.t.Fatalf("%s: not in sync: %+v (why %d), %+v (why %d)", what, p.n[0].Status(), p.n[0].Why(), p.n[1].Status(), p.n[1].Why())
	}
	p.equal(what)
}

func (p *pair) durable(i int) []byte { return p.d[i].Image()[:p.c.Blocks*p.c.Size] }

func (p *pair) equal(what string) {
	p.t.Helper()
	if !bytes.Equal(p.durable(0), p.durable(1)) {
		p.t.Fatalf("%s: the disks' durable data differ", what)
	}
}

// read is what a block has, cached or not.
func (p *pair) read(i, block int) []byte {
	p.t.Helper()
	data, err := p.d[i].Read(block)
	if err != nil {
		p.t.Fatalf("block %d: %v", block, err)
	}
	return data
}

// covered tells a node's covered extents, also of one that is down.
func (p *pair) covered(i int) []int {
	p.t.Helper()
	if p.n[i] != nil {
		return p.n[i].Covered()
	}
	blocks, size := p.d[i].Geometry()
	d, _ := disk.Load(blocks, size, p.d[i].Image())
	s, _, e := store.Open(d)
	if e != api.OK {
		p.t.Fatalf("P6: a disk cannot be opened: %v", e)
	}
	return s.Covered()
}

// answered takes the answers that have come.
func (p *pair) answered() []api.Answer {
	list := p.answers
	p.answers = nil
	return list
}
