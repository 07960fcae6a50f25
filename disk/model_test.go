package disk

import (
	"bytes"
	"errors"
	"slices"
	"testing"

	"replica/api"
)

// model: a disk as the document's words have it, each block with a list of its own, without any sharing.
type model struct {
	blocks, size int
	durable      [][]byte
	spoilt       []bool
	writes       [][][]byte
	off          bool
	fuse         int
	counts       api.Counts
}

func newModel(blocks, size int) *model {
	m := &model{blocks: blocks, size: size, spoilt: make([]bool, blocks), writes: make([][][]byte, blocks), fuse: -1}
	for range blocks {
		m.durable = append(m.durable, make([]byte, size))
	}
	return m
}

func (m *model) step() bool {
	if m.off {
		return false
	}
	if m.fuse == 0 {
		m.off = true
		return false
	}
	m.fuse--
	return true
}

func (m *model) bad(block int) bool { return block < 0 || block >= m.blocks }

func (m *model) lay(block int, data []byte) {
	m.durable[block] = slices.Clone(data)
	m.spoilt[block] = false
	m.writes[block] = nil
}

func (m *model) read(block int) ([]byte, api.Errno) {
	switch {
	case m.bad(block):
		return nil, api.ErrRange
	case m.off:
		return nil, api.ErrPower
	case len(m.writes[block]) == 0 && m.spoilt[block]:
		return nil, api.ErrMedium
	}
	m.counts.Reads++
	if n := len(m.writes[block]); n > 0 {
		return m.writes[block][n-1], api.OK
	}
	return m.durable[block], api.OK
}

func (m *model) write(block int, data []byte, through bool) api.Errno {
	switch {
	case m.bad(block):
		return api.ErrRange
	case len(data) != m.size:
		return api.ErrSize
	case !m.step():
		return api.ErrPower
	}
	if through {
		m.lay(block, data)
		m.counts.Through++
		return api.OK
	}
	m.writes[block] = append(m.writes[block], slices.Clone(data))
	m.counts.Writes++
	return api.OK
}

func (m *model) zero(first, count int) (api.Errno, int) {
	switch {
	case count < 0:
		return api.ErrArg, first
	case first < 0 || first+count > m.blocks:
		return api.ErrRange, first
	case m.off:
		return api.ErrPower, first
	}
	for b := first; b < first+count; b++ {
		if e := m.write(b, make([]byte, m.size), false); e != api.OK {
			return e, b
		}
	}
	return api.OK, 0
}

func (m *model) flush() api.Errno {
	if !m.step() {
		return api.ErrPower
	}
	for b, w := range m.writes {
		if len(w) > 0 {
			m.lay(b, w[len(w)-1])
		}
	}
	m.counts.Flushes++
	return api.OK
}

func (m *model) crash(picks []byte) {
	for b, w := range m.writes {
		k := 0
		if len(picks) > 0 {
			k = int(picks[b%len(picks)]) % (len(w) + 1)
		}
		if k > 0 {
			m.lay(b, w[k-1])
		}
		m.writes[b] = nil
	}
	m.off, m.fuse = false, -1
}

// dice: numbers from a fixed seed, so that a failure comes again.
type dice uint64

func (d *dice) upTo(n int) int {
	*d = *d*6364136223846793005 + 1442695040888963407
	return int(uint64(*d)>>33) % n
}

func number(err error) api.Errno {
	var b *api.BlockError
	if err == nil {
		return api.OK
	}
	if errors.As(err, &b) {
		return b.Err
	}
	return -1
}

func compare(t *testing.T, turn int, d *Disk, m *model) {
	t.Helper()
	var cached []int
	image := []byte{}
	for b := range m.blocks {
		if len(m.writes[b]) > 0 {
			cached = append(cached, b)
		}
		if d.Waiting(b) != len(m.writes[b]) {
			t.Fatalf("turn %d: Waiting(%d) %d, want %d", turn, b, d.Waiting(b), len(m.writes[b]))
		}
		data, err := d.Durable(b)
		if m.spoilt[b] {
			image = append(image, make([]byte, m.size)...)
			wantErr(t, "Durable", err, api.ErrMedium, b)
		} else {
			image = append(image, m.durable[b]...)
			if err != nil || !bytes.Equal(data, m.durable[b]) {
				t.Fatalf("turn %d: Durable(%d)", turn, b)
			}
		}
	}
	if !slices.Equal(d.Cached(), cached) || !bytes.Equal(d.Image(), image) || d.Counts() != m.counts || d.On() == m.off {
		t.Fatalf("turn %d: Cached %v, want %v; Counts %v, want %v; On %v", turn, d.Cached(), cached, d.Counts(), m.counts, d.On())
	}
}

// P202 to P211, in long rows of calls at hazard.
func TestModel(t *testing.T) {
	for seed := range 40 {
		roll := dice(seed)
		blocks := 1 + roll.upTo(9)
		d, _ := New(blocks, 128)
		m := newModel(blocks, 128)
		for turn := range 600 {
			play(t, turn, &roll, d, m)
			compare(t, turn, d, m)
		}
	}
}

func play(t *testing.T, turn int, roll *dice, d *Disk, m *model) {
	t.Helper()
	block := roll.upTo(m.blocks+2) - 1
	data := fill(byte(roll.upTo(256)))
	if roll.upTo(20) == 0 {
		data = data[:roll.upTo(128)]
	}
	switch roll.upTo(12) {
	case 0, 1:
		got, err := d.Read(block)
		want, e := m.read(block)
		if number(err) != e || !bytes.Equal(got, want) {
			t.Fatalf("turn %d: Read(%d) = %v, want %v", turn, block, err, e)
		}
	case 2, 3, 4:
		if err, e := d.Write(block, data), m.write(block, data, false); number(err) != e {
			t.Fatalf("turn %d: Write(%d) = %v, want %v", turn, block, err, e)
		}
	case 5:
		if err, e := d.Through(block, data), m.write(block, data, true); number(err) != e {
			t.Fatalf("turn %d: Through(%d) = %v, want %v", turn, block, err, e)
		}
	case 6:
		count := roll.upTo(5) - 1
		err := d.Zero(block, count)
		e, at := m.zero(block, count)
		wantErr(t, "Zero", err, e, at)
	case 7:
		if err, e := d.Flush(), m.flush(); (err == nil) != (e == api.OK) {
			t.Fatalf("turn %d: Flush = %v, want %v", turn, err, e)
		}
	case 8:
		err := d.Spoil(block)
		if m.bad(block) {
			wantErr(t, "Spoil", err, api.ErrRange, block)
		} else {
			wantErr(t, "Spoil", err, api.OK, block)
			m.spoilt[block] = true
		}
	case 9:
		steps := roll.upTo(8) - 1
		d.Fuse(steps)
		m.fuse = steps
	default:
		if roll.upTo(3) > 0 {
			return
		}
		picks := make([]byte, roll.upTo(4))
		for i := range picks {
			picks[i] = byte(roll.upTo(256))
		}
		d.Crash(picks)
		m.crash(picks)
	}
}
