package inspect

import (
	"bytes"
	"fmt"
	"slices"
	"testing"

	"replica/api"
	"replica/conf"
	"replica/disk"
	"replica/meta"
	"replica/node"
	"replica/store"
)

// dice: numbers that look like chance and are the same each time.
type dice uint64

func (d *dice) below(n int) int {
	*d = *d*6364136223846793005 + 1442695040888963407
	return int(uint64(*d) >> 33 % uint64(n))
}

func (d *dice) one(list ...int) int { return list[d.below(len(list))] }

func (d *dice) picks() []byte {
	picks := make([]byte, d.below(5))
	for i := range picks {
		picks[i] = byte(d.below(256))
	}
	return picks
}

// resource is that of the chapter's examples.
func resource() api.Config {
	return api.Config{Name: "r0", Blocks: 8, Size: 128, Slots: 2, Protocol: api.ProtoC, Window: 8, Backlog: 256, Resend: 3, Dead: 20, Epoch: 16, Queue: 32, Rate: 4, Burst: 8, Ahead: 4}
}

func with(change func(c *api.Config)) api.Config {
	c := resource()
	change(&c)
	return c
}

// sized gives a resource of another device.
func sized(blocks, size, slots int) api.Config {
	return with(func(c *api.Config) { c.Blocks, c.Size, c.Slots = blocks, size, slots })
}

func planOf(c api.Config) api.Layout {
	l, _ := meta.Plan(c.Blocks, c.Size, c.Slots)
	return l
}

func fill(c api.Config, b int) []byte { return bytes.Repeat([]byte{byte(b)}, c.Size) }

// clean gives a disk of node.Disk with the generation 1024.
func clean(t testing.TB, c api.Config) *disk.Disk {
	t.Helper()
	return nodeDisk(t, c, true, 1024)
}

func nodeDisk(t testing.TB, c api.Config, clean bool, first uint64) *disk.Disk {
	t.Helper()
	d, e := node.Disk(c, clean, first)
	if e != api.OK {
		t.Fatalf("Disk: %v", e)
	}
	return d
}

// formatted gives a disk with those identifiers and flags on which those blocks are marked.
func formatted(t testing.TB, c api.Config, gens api.Gens, flags uint32, marks ...int) *disk.Disk {
	t.Helper()
	d, _ := disk.New(planOf(c).Total, c.Size)
	if e := store.Format(d, c.Blocks, c.Slots, gens, flags, false); e != api.OK {
		t.Fatalf("Format: %v", e)
	}
	s := opened(t, d)
	for _, b := range marks {
		s.Mark(b)
	}
	return d
}

func opened(t testing.TB, d *disk.Disk) *store.Store {
	t.Helper()
	s, _, e := store.Open(d)
	if e != api.OK {
		t.Fatalf("Open: %v", e)
	}
	return s
}

// twinOf gives a disk with d's durable bytes and unreadable blocks.
func twinOf(d *disk.Disk) *disk.Disk {
	blocks, size := d.Geometry()
	twin, _ := disk.Load(blocks, size, d.Image())
	for b := range blocks {
		if _, err := d.Durable(b); err != nil {
			twin.Spoil(b)
		}
	}
	return twin
}

func sameDump(a, b api.Dump) bool {
	return a.Super == b.Super && slices.Equal(a.Bits, b.Bits) && slices.Equal(a.Slots, b.Slots)
}

func sameForecast(a, b api.Forecast) bool {
	return a.Verdict == b.Verdict && a.Err == b.Err && slices.Equal(a.Marked, b.Marked) && slices.Equal(a.Ship, b.Ship) && slices.Equal(a.Hidden, b.Hidden)
}

// looks: what Look tells; by the chapter's words too.
func looks(t testing.TB, what string, d *disk.Disk, c api.Config, want api.Dump) {
	t.Helper()
	if m, e := Look(d, c); e != api.OK || !sameDump(m, want) {
		t.Errorf("P2002: %s: Look: %+v, %v, want %+v", what, m, e, want)
	}
	if m, e := plainLook(d, c); e != api.OK || !sameDump(m, want) {
		t.Errorf("%s: the model of Look: %+v, %v, want %+v", what, m, e, want)
	}
}

// lookRefused: Look's error, and Forecast's by it.
func lookRefused(t testing.TB, what string, d *disk.Disk, c api.Config, want api.Errno) {
	t.Helper()
	if m, e := Look(d, c); e != want || !sameDump(m, api.Dump{}) {
		t.Errorf("P2002: %s: Look: %+v, %v, want %v", what, m, e, want)
	}
	if _, e := plainLook(d, c); e != want {
		t.Errorf("%s: the model of Look: %v, want %v", what, e, want)
	}
	if conf.Check(c) == api.OK {
		forecastRefused(t, what, d, clean(t, c), c, want)
		forecastRefused(t, what, clean(t, c), d, c, want)
	}
}

func forecastRefused(t testing.TB, what string, a, b *disk.Disk, c api.Config, want api.Errno) {
	t.Helper()
	if f, e := Forecast(a, b, c); e != want || !sameForecast(f, api.Forecast{}) {
		t.Errorf("P2003: %s: Forecast: %+v, %v, want %v", what, f, e, want)
	}
}

// tells: what Forecast tells; by the chapter's words too.
func tells(t testing.TB, what string, a, b *disk.Disk, c api.Config, want api.Forecast) {
	t.Helper()
	if f, e := Forecast(a, b, c); e != api.OK || !sameForecast(f, want) {
		t.Errorf("P2003, P2004: %s: Forecast: %+v, %v, want %+v", what, f, e, want)
	}
	if f, e := plainForecast(a, b, c); e != api.OK || !sameForecast(f, want) {
		t.Errorf("%s: the model of Forecast: %+v, %v, want %+v", what, f, e, want)
	}
}

func mirrored(v api.Verdict) api.Verdict {
	v.Kind = [...]int{api.NoSync, api.TargetBits, api.SourceBits, api.TargetFull, api.SourceFull, api.SplitBits, api.SplitFull, api.Unrelated}[v.Kind]
	return v
}

// seen: all that a disk tells, but for its Reads.
func seen(d *disk.Disk) string {
	blocks, _ := d.Geometry()
	counts := d.Counts()
	counts.Reads = 0
	text := fmt.Sprint(d.On(), counts, string(d.Image()))
	for b := range blocks {
		if _, err := d.Durable(b); err != nil {
			text += fmt.Sprint(" spoilt ", b)
		}
		if n := d.Waiting(b); n > 0 {
			last, err := d.Read(b)
			text += fmt.Sprint(" cached ", b, n, string(last), err)
		}
	}
	return text
}

// all lists the numbers below n.
func all(n int) []int {
	list := make([]int, n)
	for i := range list {
		list[i] = i
	}
	return list
}

type list = []int
