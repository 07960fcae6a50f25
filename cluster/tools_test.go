package cluster

import (
	"bytes"
	"encoding/hex"
	"fmt"
	"slices"
	"strings"
	"testing"

	"replica/api"
	"replica/disk"
	"replica/meta"
	"replica/store"
	"replica/wire"
)

// small is the resource of the chapter's examples.
const small = "resource r0 { device { blocks 8; block-size 128; al-slots 2; } }"

type dice uint64

func (d *dice) below(n int) int {
	*d = *d*6364136223846793005 + 1442695040888963407
	return int(uint64(*d) >> 33 % uint64(n))
}

func (d *dice) one(list ...int) int { return list[d.below(len(list))] }

func (d *dice) picks() string {
	text := ""
	for range d.below(5) {
		text += fmt.Sprintf("%02x", d.below(256))
	}
	if text == "" {
		return "-"
	}
	return text
}

func newCluster(t testing.TB, resource string) *Cluster {
	t.Helper()
	c, at, e := New(resource)
	if c == nil || at != 0 || e != api.OK {
		t.Fatalf("P1801: New(%q): %d, %d", resource, at, e)
	}
	return c
}

// play plays lines that are events, and gives all that is told.
func play(t testing.TB, c *Cluster, lines ...string) []string {
	t.Helper()
	var told []string
	for _, line := range lines {
		list, e := c.Do(line)
		if e != api.OK {
			t.Fatalf("P1802: Do(%q): %d", line, e)
		}
		told = append(told, list...)
	}
	return told
}

// tells plays lines and holds what is told against want.
func tells(t testing.TB, c *Cluster, lines []string, want ...string) {
	t.Helper()
	if got := play(t, c, lines...); !slices.Equal(got, want) {
		t.Errorf("%q tell %q, want %q", lines, got, want)
	}
}

func statusOf(t testing.TB, c *Cluster, i int) api.Status {
	t.Helper()
	s, e := c.Status(i)
	if e != api.OK {
		t.Fatalf("P1804: Status(%d): %d", i, e)
	}
	return s
}

func durable(t testing.TB, c *Cluster, i int) []byte {
	t.Helper()
	data, e := c.Durable(i)
	if e != api.OK || len(data) != c.config.Blocks*c.config.Size {
		t.Fatalf("P1803: Durable(%d): %d bytes, %d", i, len(data), e)
	}
	return data
}

// briefly tells bytes by the chapter's words on told data.
func briefly(block []byte) string {
	for k := 1; ; k *= 2 {
		if strings.Repeat(string(block[:k]), len(block)/k) == string(block) {
			return hex.EncodeToString(block[:k])
		}
	}
}

// blocksOf tells each of the blocks of which data are made.
func blocksOf(data []byte, size int) []string {
	var list []string
	for part := range slices.Chunk(data, size) {
		list = append(list, briefly(part))
	}
	return list
}

// logical tells a node's blocks, cached or not.
func logical(t testing.TB, c *Cluster, i int) []string {
	t.Helper()
	var list []string
	for b := range c.config.Blocks {
		data, err := c.sides[i].disk.Read(b)
		if err != nil {
			t.Fatalf("block %d of %s cannot be read: %v", b, nodeName(i), err)
		}
		list = append(list, briefly(data))
	}
	return list
}

// openCopy opens a copy of what a disk has durably.
func openCopy(t testing.TB, d *disk.Disk) *store.Store {
	t.Helper()
	total, size := d.Geometry()
	other, _ := disk.Load(total, size, d.Image())
	s, _, e := store.Open(other)
	if e != api.OK {
		t.Fatalf("P6: a disk cannot be opened: %d", e)
	}
	return s
}

// packetOf reads what a frame carries.
func packetOf(frame []byte) (api.Frame, api.Packet, bool) {
	f, e := wire.DecodeFrame(frame)
	if e != api.OK || f.Kind != api.FrameData {
		return f, api.Packet{}, false
	}
	p, _, e := wire.DecodePacket(f.Payload)
	return f, p, e == api.OK
}

// inSync: P5's premise.
func inSync(c *Cluster) bool {
	for i := range 2 {
		s, e := c.Status(i)
		if e != api.OK || s.Conn != api.Connected || s.Disk != api.UpToDate || s.Pdsk != api.UpToDate || s.OutOfSync+s.Unacked+s.Epochs > 0 {
			return false
		}
	}
	return true
}

// bound is P1812's.
func bound(c api.Config) int {
	return 6*(c.Blocks+c.Queue+20) + 16*c.Epoch + 2*c.Dead + 4*c.Resend
}

// formatAs gives a node that is down, or goes down, a disk with these identifiers.
func formatAs(c *Cluster, i int, g api.Gens) api.Errno {
	if c.sides[i].node != nil {
		c.sides[i].goDown(nil)
	}
	return store.Format(c.sides[i].disk, c.config.Blocks, c.config.Slots, g, api.FlagConsistent, false)
}

// storedMarks tells the blocks that are durably marked.
func storedMarks(t testing.TB, c *Cluster, i int) []int {
	t.Helper()
	l, _ := meta.Plan(c.config.Blocks, c.config.Size, c.config.Slots)
	var area [][]byte
	for k := range l.BitmapBlocks {
		block, err := c.sides[i].disk.Durable(l.Bitmap + k)
		if err != nil {
			t.Fatal(err)
		}
		area = append(area, block)
	}
	words, _, e := meta.Unpack(l.Blocks, area, l.Size)
	if e != api.OK {
		t.Fatalf("the bitmap's area: %d", e)
	}
	var list []int
	for b := range l.Blocks {
		if words[b/64]>>(b%64)&1 == 1 {
			list = append(list, b)
		}
	}
	return list
}

// differing tells the blocks whose durable bytes differ.
func differing(t testing.TB, c *Cluster) []int {
	t.Helper()
	a, b, size := durable(t, c, 0), durable(t, c, 1), c.config.Size
	if bytes.Equal(a, b) {
		return nil
	}
	var list []int
	for k := range c.config.Blocks {
		if !bytes.Equal(a[k*size:(k+1)*size], b[k*size:(k+1)*size]) {
			list = append(list, k)
		}
	}
	return list
}

// uncovered tells those of them that P4 does not allow.
func uncovered(t testing.TB, c *Cluster) []int {
	t.Helper()
	list := differing(t, c)
	if len(list) == 0 {
		return nil
	}
	a, _ := c.Covered(0)
	b, _ := c.Covered(1)
	return slices.DeleteFunc(list, func(k int) bool { return slices.Contains(a, k/4) || slices.Contains(b, k/4) })
}
