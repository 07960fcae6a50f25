package inspect

import (
	"slices"
	"testing"

	"replica/api"
	"replica/disk"
	"replica/node"
	"replica/wire"
)

// couple: two nodes, their disks, and the frames on the way to each.
type couple struct {
	t       testing.TB
	c       api.Config
	d       [2]*disk.Disk
	n       [2]*node.Node // nil: down
	way     [2][][]byte
	parted  bool
	picks   [2][]byte // of the fuse
	crashes int
	losses  int              // of power, by a fuse
	seen    [2]uint          // a bit for each state of a connection that a node has told
	sent    map[int]struct{} // the blocks that frames have brought in a resync (a frame may come twice)
	behind  func()           // looks at what holds behind each step
}

func newCouple(t testing.TB, c api.Config, a, b *disk.Disk) *couple {
	t.Helper()
	p := &couple{t: t, c: c, d: [2]*disk.Disk{a, b}, sent: map[int]struct{}{}, behind: func() {}}
	p.up(0)
	p.up(1)
	return p
}

// up starts a node.
func (p *couple) up(i int) {
	p.t.Helper()
	n, e := node.New(p.d[i], p.c, i)
	if e != api.OK {
		p.t.Fatalf("New of node %d: %v", i, e)
	}
	p.n[i] = n
	p.behind()
}

func (p *couple) crash(i int, picks []byte) {
	p.n[i] = nil
	p.d[i].Crash(picks)
	p.crashes++
	p.behind()
}

// did puts on the way what a step of a node gave.
func (p *couple) did(i int, out api.NodeOut) {
	p.behind()
	if !p.d[i].On() {
		p.losses++
		p.crash(i, p.picks[i])
		return
	}
	p.seen[i] |= 1 << p.n[i].Status().Conn
	for _, frame := range out.Frames {
		if block, ok := shippedBy(frame); ok {
			p.sent[block] = struct{}{}
		}
		if !p.parted {
			p.way[1-i] = append(p.way[1-i], frame)
		}
	}
}

// shippedBy tells the block whose data a frame brings in a resync.
func shippedBy(frame []byte) (int, bool) {
	f, e := wire.DecodeFrame(frame)
	if e != api.OK || f.Kind != api.FrameData {
		return 0, false
	}
	packet, _, e := wire.DecodePacket(f.Payload)
	return int(packet.Block), e == api.OK && packet.Cmd == api.CmdSyncData
}

// call does one step of a node that is up.
func (p *couple) call(i int, step func(n *node.Node) (api.NodeOut, api.Errno)) api.Errno {
	if p.n[i] == nil {
		return api.ErrOff
	}
	out, e := step(p.n[i])
	p.did(i, out)
	return e
}

func (p *couple) connect(i int, discard bool) api.Errno {
	return p.call(i, func(n *node.Node) (api.NodeOut, api.Errno) { return n.Connect(discard) })
}

func (p *couple) tick(i int) {
	p.call(i, func(n *node.Node) (api.NodeOut, api.Errno) { return n.Tick(), api.OK })
}

// deliver hands a node the frame at a place of its row.
func (p *couple) deliver(i, place int) {
	frame := p.way[i][place]
	p.way[i] = slices.Delete(p.way[i], place, place+1)
	p.call(i, func(n *node.Node) (api.NodeOut, api.Errno) { return n.Take(frame), api.OK })
}

// rounds: calm ones, as chapter 18 says.
func (p *couple) rounds(count int) {
	for range count {
		for i := range 2 {
			for range len(p.way[i]) {
				p.deliver(i, 0)
			}
		}
		p.tick(0)
		p.tick(1)
	}
}

const joined = 1<<api.Connected | 1<<api.SyncSource | 1<<api.SyncTarget | 1<<api.VerifySource | 1<<api.VerifyTarget

// calmRounds is P1812's number.
func calmRounds(c api.Config) int {
	return 6*(c.Blocks+c.Queue+20) + 16*c.Epoch + 2*c.Dead + 4*c.Resend
}

// dataOf tells a disk's data blocks; an unreadable one is nil.
func dataOf(d *disk.Disk, c api.Config) [][]byte {
	list := make([][]byte, c.Blocks)
	for block := range list {
		list[block], _ = d.Durable(block)
	}
	return list
}
