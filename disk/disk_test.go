package disk

import (
	"bytes"
	"errors"
	"math"
	"slices"
	"testing"

	"replica/api"
)

func filled(c byte, size int) []byte { return bytes.Repeat([]byte{c}, size) }

func fill(c byte) []byte { return filled(c, 128) }

var blank = make([]byte, 128)

func fresh(t *testing.T) *Disk {
	t.Helper()
	d, e := New(4, 128)
	if d == nil || e != api.OK {
		t.Fatalf("P201: New(4, 128) = %v, %v", d, e)
	}
	return d
}

// wantErr: the error is itself a *api.BlockError of that number and block; nil for api.OK.
func wantErr(t *testing.T, what string, err error, n api.Errno, block int) {
	t.Helper()
	if n == api.OK {
		if err != nil {
			t.Errorf("%s: %v, want nil", what, err)
		}
		return
	}
	b, ok := err.(*api.BlockError)
	if !ok || b.Err != n || b.Block != block {
		t.Errorf("%s: %#v, want number %d of block %d", what, err, int(n), block)
		return
	}
	var as *api.BlockError
	if !errors.Is(err, n) || !errors.As(err, &as) || as != b {
		t.Errorf("%s: errors.Is and errors.As do not find number %d", what, int(n))
	}
}

func wantRead(t *testing.T, what string, d *Disk, block int, want []byte) {
	t.Helper()
	got, err := d.Read(block)
	if err != nil || !bytes.Equal(got, want) {
		t.Errorf("%s: Read(%d) = %.4q.., %v, want %.4q..", what, block, got, err, want)
	}
}

func wantReadErr(t *testing.T, what string, d *Disk, block int, n api.Errno) {
	t.Helper()
	got, err := d.Read(block)
	wantErr(t, what, err, n, block)
	if got != nil {
		t.Errorf("%s: Read(%d) gave bytes beside an error", what, block)
	}
}

func wantDurable(t *testing.T, what string, d *Disk, block int, want []byte) {
	t.Helper()
	got, err := d.Durable(block)
	if err != nil || !bytes.Equal(got, want) {
		t.Errorf("%s: Durable(%d) = %.4q.., %v, want %.4q..", what, block, got, err, want)
	}
}

func wantDurableErr(t *testing.T, what string, d *Disk, block int, n api.Errno) {
	t.Helper()
	got, err := d.Durable(block)
	wantErr(t, what, err, n, block)
	if got != nil {
		t.Errorf("%s: Durable(%d) gave bytes beside an error", what, block)
	}
}

func wantCached(t *testing.T, what string, d *Disk, want ...int) {
	t.Helper()
	if got := d.Cached(); !slices.Equal(got, want) {
		t.Errorf("%s: Cached %v, want %v", what, got, want)
	}
}

func wantCounts(t *testing.T, what string, d *Disk, want api.Counts) {
	t.Helper()
	if got := d.Counts(); got != want {
		t.Errorf("%s: Counts %+v, want %+v", what, got, want)
	}
}

// P201: the geometries that New and Load take and refuse.
func TestGeometry(t *testing.T) {
	cases := []struct {
		blocks, size int
		e            api.Errno
	}{
		{1, 128, api.OK}, {2, 256, api.OK}, {3, 512, api.OK}, {4, 1024, api.OK}, {8192, 128, api.OK}, {8192, 1024, api.OK},
		{0, 128, api.ErrArg}, {-1, 128, api.ErrArg}, {8193, 128, api.ErrArg}, {math.MinInt, 128, api.ErrArg}, {math.MaxInt, 128, api.ErrArg},
		{4, 0, api.ErrArg}, {4, -128, api.ErrArg}, {4, 1, api.ErrArg}, {4, 64, api.ErrArg}, {4, 127, api.ErrArg}, {4, 129, api.ErrArg},
		{4, 192, api.ErrArg}, {4, 384, api.ErrArg}, {4, 768, api.ErrArg}, {4, 1023, api.ErrArg}, {4, 1025, api.ErrArg}, {4, 2048, api.ErrArg},
		{4, math.MinInt, api.ErrArg}, {4, math.MaxInt, api.ErrArg}, {0, 0, api.ErrArg},
	}
	for _, c := range cases {
		d, e := New(c.blocks, c.size)
		checkFresh(t, "New", d, e, c.blocks, c.size, c.e)
		length := 0
		if c.e == api.OK {
			length = c.blocks * c.size
		}
		d, e = Load(c.blocks, c.size, make([]byte, length))
		checkFresh(t, "Load", d, e, c.blocks, c.size, c.e)
	}
}

func checkFresh(t *testing.T, what string, d *Disk, e api.Errno, blocks int, size int, want api.Errno) {
	t.Helper()
	if e != want || (d != nil) != (want == api.OK) {
		t.Errorf("P201: %s(%d, %d) = %v, %v, want %v", what, blocks, size, d, e, want)
		return
	}
	if d == nil {
		return
	}
	if n, s := d.Geometry(); n != blocks || s != size {
		t.Errorf("P201: %s(%d, %d): Geometry %d, %d", what, blocks, size, n, s)
	}
	if !d.On() || len(d.Cached()) != 0 || d.Counts() != (api.Counts{}) || !bytes.Equal(d.Image(), make([]byte, blocks*size)) {
		t.Errorf("P201: %s(%d, %d) is not fresh", what, blocks, size)
	}
	wantRead(t, "P201", d, 0, make([]byte, size))
	wantRead(t, "P201", d, blocks-1, make([]byte, size))
	for range 3 {
		wantErr(t, "P201: no fuse", d.Flush(), api.OK, 0)
	}
}

// P201: what Load takes out of an image, and the lengths that it refuses.
func TestLoad(t *testing.T) {
	image := make([]byte, 3*256)
	for i := range image {
		image[i] = byte(i*7 + i/256)
	}
	d, e := Load(3, 256, image)
	if d == nil || e != api.OK {
		t.Fatalf("P201: Load(3, 256, ..) = %v, %v", d, e)
	}
	for b := range 3 {
		wantRead(t, "P201", d, b, image[b*256:(b+1)*256])
		wantDurable(t, "P201", d, b, image[b*256:(b+1)*256])
	}
	if !bytes.Equal(d.Image(), image) {
		t.Errorf("P201: Image is not what was loaded")
	}
	wrong := []struct {
		blocks, size, length int
		e                    api.Errno
	}{
		{2, 128, 0, api.ErrSize}, {2, 128, 255, api.ErrSize}, {2, 128, 257, api.ErrSize}, {2, 128, 128, api.ErrSize}, {1, 256, 128, api.ErrSize},
		{0, 128, 0, api.ErrArg}, {0, 128, 5, api.ErrArg}, {2, 100, 200, api.ErrArg}, {8193, 128, 0, api.ErrArg}, {math.MaxInt, 1024, 1024, api.ErrArg},
	}
	for _, c := range wrong {
		if d, e := Load(c.blocks, c.size, make([]byte, c.length)); d != nil || e != c.e {
			t.Errorf("P201: Load(%d, %d, %d bytes) = %v, %v, want %v", c.blocks, c.size, c.length, d, e, c.e)
		}
	}
	if d, e := Load(2, 128, nil); d != nil || e != api.ErrSize {
		t.Errorf("P201: Load(2, 128, nil) = %v, %v", d, e)
	}
}

var strangeBlocks = []int{-1, 4, 5, math.MinInt, math.MaxInt}

// P202: what Read tells, in the order of its errors.
func TestRead(t *testing.T) {
	d := fresh(t)
	for _, b := range strangeBlocks {
		wantReadErr(t, "P202", d, b, api.ErrRange)
	}
	wantRead(t, "P202", d, 3, blank)
	d.Through(3, fill('A'))
	wantRead(t, "P202: durable", d, 3, fill('A'))
	d.Write(3, fill('B'))
	d.Write(3, fill('C'))
	wantRead(t, "P202: the last cached one", d, 3, fill('C'))
	d.Spoil(3)
	wantRead(t, "P202: cached, though spoilt", d, 3, fill('C'))
	d.Spoil(2)
	wantReadErr(t, "P202: spoilt", d, 2, api.ErrMedium)
	d.Fuse(0)
	d.Flush()
	wantReadErr(t, "P202: the power ahead of the medium", d, 2, api.ErrPower)
	wantReadErr(t, "P202: power", d, 3, api.ErrPower)
	for _, b := range strangeBlocks {
		wantReadErr(t, "P202: the range ahead of the power", d, b, api.ErrRange)
	}
}

// P203, P204: the errors that Write and Through share, and that they change nothing.
func TestWriteRefused(t *testing.T) {
	lengths := []int{0, 1, 127, 129, 256}
	for _, through := range []bool{false, true} {
		d := fresh(t)
		write, what := d.Write, "P203: Write"
		if through {
			write, what = d.Through, "P204: Through"
		}
		d.Write(1, fill('A'))
		d.Spoil(2)
		refuse := func(n api.Errno) {
			t.Helper()
			for _, b := range strangeBlocks {
				wantErr(t, what, write(b, fill('B')), api.ErrRange, b)
				wantErr(t, what, write(b, nil), api.ErrRange, b)
			}
			for _, l := range lengths {
				wantErr(t, what, write(1, make([]byte, l)), api.ErrSize, 1)
			}
			wantErr(t, what, write(1, nil), api.ErrSize, 1)
			if n != api.OK {
				wantErr(t, what, write(1, fill('B')), n, 1)
				wantErr(t, what, write(2, fill('B')), n, 2)
			}
			wantCached(t, what, d, 1)
			wantDurable(t, what, d, 1, blank)
			wantDurableErr(t, what, d, 2, api.ErrMedium)
			wantCounts(t, what, d, api.Counts{Writes: 1})
		}
		refuse(api.OK)
		d.Fuse(0)
		refuse(api.OK)
		if !d.On() {
			t.Errorf("%s: a refused one is no step", what)
		}
		refuse(api.ErrPower)
		if d.On() {
			t.Errorf("%s: the power is still on", what)
		}
		refuse(api.ErrPower)
		d.Crash([]byte{1})
		wantRead(t, what, d, 1, fill('A'))
	}
}

// P203: a Write is the block's last cached write and nothing durable changes.
func TestWrite(t *testing.T) {
	d := fresh(t)
	d.Through(1, fill('a'))
	for i, c := range []byte("ABCDE") {
		wantErr(t, "P203", d.Write(1, fill(c)), api.OK, 0)
		wantRead(t, "P203", d, 1, fill(c))
		wantDurable(t, "P203", d, 1, fill('a'))
		if d.Waiting(1) != i+1 {
			t.Errorf("P203: Waiting(1) %d, want %d", d.Waiting(1), i+1)
		}
	}
	wantCached(t, "P203", d, 1)
	wantRead(t, "P203", d, 0, blank)
	wantRead(t, "P203", d, 2, blank)
}

// P204: a Through is durable at once, forgets that block's cached writes alone, and mends a spoilt block.
func TestThrough(t *testing.T) {
	d := fresh(t)
	d.Write(2, fill('A'))
	d.Write(2, fill('B'))
	d.Write(3, fill('C'))
	wantErr(t, "P204", d.Through(2, fill('D')), api.OK, 0)
	wantRead(t, "P204", d, 2, fill('D'))
	wantDurable(t, "P204", d, 2, fill('D'))
	wantDurable(t, "P204: another block", d, 3, blank)
	wantCached(t, "P204", d, 3)
	if d.Waiting(2) != 0 || d.Waiting(3) != 1 {
		t.Errorf("P204: Waiting %d, %d", d.Waiting(2), d.Waiting(3))
	}
	d.Crash([]byte{255})
	wantRead(t, "P204", d, 2, fill('D'))
	d.Spoil(2)
	wantErr(t, "P204", d.Through(2, fill('E')), api.OK, 0)
	wantRead(t, "P204: mended", d, 2, fill('E'))
}

// P205: the ranges that Zero takes and refuses.
func TestZeroRanges(t *testing.T) {
	cases := []struct {
		first, count int
		e            api.Errno
		cached       []int
	}{
		{0, 4, api.OK, []int{0, 1, 2, 3}}, {1, 2, api.OK, []int{1, 2}}, {3, 1, api.OK, []int{3}},
		{0, 0, api.OK, nil}, {4, 0, api.OK, nil}, {5, 0, api.ErrRange, nil}, {4, 1, api.ErrRange, nil}, {1, 4, api.ErrRange, nil}, {0, 5, api.ErrRange, nil},
		{-1, 0, api.ErrRange, nil}, {-1, 1, api.ErrRange, nil}, {-1, 5, api.ErrRange, nil}, {-3, 2, api.ErrRange, nil},
		{0, -1, api.ErrArg, nil}, {-1, -1, api.ErrArg, nil}, {9, -1, api.ErrArg, nil}, {9, math.MinInt, api.ErrArg, nil},
		{1, math.MaxInt, api.ErrRange, nil}, {math.MaxInt, 1, api.ErrRange, nil}, {math.MaxInt, math.MaxInt, api.ErrRange, nil},
		{math.MinInt, math.MaxInt, api.ErrRange, nil}, {math.MinInt, 0, api.ErrRange, nil}, {math.MaxInt, 0, api.ErrRange, nil},
	}
	for _, c := range cases {
		d := fresh(t)
		wantErr(t, "P205", d.Zero(c.first, c.count), c.e, c.first)
		wantCached(t, "P205", d, c.cached...)
		wantCounts(t, "P205", d, api.Counts{Writes: len(c.cached)})
		d.Fuse(0)
		d.Flush()
		e := c.e
		if e == api.OK {
			e = api.ErrPower
		}
		wantErr(t, "P205: without power", d.Zero(c.first, c.count), e, c.first)
	}
}

// P205: zeroes go through the cache, beside the writes that stand there.
func TestZeroWrites(t *testing.T) {
	d := fresh(t)
	for b := range 4 {
		d.Through(b, fill('A'))
	}
	d.Write(2, fill('B'))
	wantErr(t, "P205", d.Zero(1, 2), api.OK, 0)
	wantRead(t, "P205", d, 0, fill('A'))
	wantRead(t, "P205", d, 1, blank)
	wantRead(t, "P205", d, 2, blank)
	wantRead(t, "P205", d, 3, fill('A'))
	wantDurable(t, "P205", d, 1, fill('A'))
	if d.Waiting(1) != 1 || d.Waiting(2) != 2 {
		t.Errorf("P205: Waiting %d, %d", d.Waiting(1), d.Waiting(2))
	}
	d.Crash([]byte{1})
	wantRead(t, "P205", d, 1, blank)
	wantRead(t, "P205: the first of two", d, 2, fill('B'))
}

// P205: a fuse stops a Zero at its block, and what stands ahead of it is written.
func TestZeroFuse(t *testing.T) {
	for fuse := range 5 {
		d := fresh(t)
		for b := range 4 {
			d.Through(b, fill('A'))
		}
		d.Fuse(fuse)
		err := d.Zero(1, 3)
		if fuse >= 3 {
			wantErr(t, "P205", err, api.OK, 0)
		} else {
			wantErr(t, "P205", err, api.ErrPower, 1+fuse)
		}
		done := min(fuse, 3)
		wantCached(t, "P205", d, []int{1, 2, 3}[:done]...)
		wantCounts(t, "P205, P211", d, api.Counts{Writes: done, Through: 4})
		if d.On() != (fuse >= 3) {
			t.Errorf("P205: fuse %d: On %v", fuse, d.On())
		}
		d.Crash([]byte{1})
		for b := range 4 {
			want := fill('A')
			if b >= 1 && b <= done {
				want = blank
			}
			wantRead(t, "P205", d, b, want)
		}
	}
	d := fresh(t)
	d.Fuse(0)
	wantErr(t, "P205: none is no step", d.Zero(2, 0), api.OK, 0)
	if !d.On() {
		t.Errorf("P205: a Zero of no block blew the fuse")
	}
	d.Fuse(1)
	d.Zero(2, 0)
	wantErr(t, "P205: none takes nothing from the fuse", d.Write(0, fill('A')), api.OK, 0)
}

// P206: a Flush makes the last cached write of each block durable.
func TestFlush(t *testing.T) {
	d := fresh(t)
	d.Write(0, fill('A'))
	d.Write(2, fill('B'))
	d.Write(2, fill('C'))
	d.Spoil(2)
	d.Spoil(3)
	if err := d.Flush(); err != nil {
		t.Errorf("P206: Flush = %v", err)
	}
	wantCached(t, "P206", d)
	wantDurable(t, "P206", d, 0, fill('A'))
	wantDurable(t, "P206", d, 1, blank)
	wantDurable(t, "P206: mended", d, 2, fill('C'))
	wantDurableErr(t, "P206: nothing cached", d, 3, api.ErrMedium)
	d.Crash([]byte{0})
	wantRead(t, "P206", d, 0, fill('A'))
	wantRead(t, "P206", d, 2, fill('C'))
	if d.Waiting(2) != 0 {
		t.Errorf("P206: Waiting(2) %d", d.Waiting(2))
	}
}

// P206: a Flush without power changes nothing and tells the bare number; one of an empty cache is a step.
func TestFlushPower(t *testing.T) {
	d := fresh(t)
	d.Write(0, fill('A'))
	d.Fuse(1)
	if err := d.Flush(); err != nil || !d.On() {
		t.Errorf("P206: Flush = %v", err)
	}
	d.Fuse(1)
	d.Flush()
	for range 2 {
		if err := d.Flush(); err != error(api.ErrPower) || d.On() {
			t.Errorf("P206: Flush = %#v, On %v", err, d.On())
		}
	}
	d.Crash(nil)
	d.Write(1, fill('B'))
	d.Fuse(0)
	d.Flush()
	wantCached(t, "P206", d, 1)
	wantDurable(t, "P206", d, 1, blank)
	wantCounts(t, "P206", d, api.Counts{Writes: 2, Flushes: 2})
}

// P207: what the telling calls tell, with the power on and off.
func TestTelling(t *testing.T) {
	d := fresh(t)
	d.Through(0, fill('A'))
	d.Through(1, fill('B'))
	for _, b := range []int{3, 1, 3, 0, 1, 3} {
		d.Write(b, fill('C'))
	}
	d.Spoil(1)
	d.Fuse(0)
	check := func(on bool) {
		t.Helper()
		wantCached(t, "P207", d, 0, 1, 3)
		for b, want := range map[int]int{0: 1, 1: 2, 2: 0, 3: 3, -1: 0, 4: 0, math.MinInt: 0, math.MaxInt: 0} {
			if d.Waiting(b) != want {
				t.Errorf("P207: Waiting(%d) %d, want %d", b, d.Waiting(b), want)
			}
		}
		wantDurable(t, "P207", d, 0, fill('A'))
		wantDurableErr(t, "P207", d, 1, api.ErrMedium)
		wantDurable(t, "P207", d, 3, blank)
		for _, b := range strangeBlocks {
			wantDurableErr(t, "P207", d, b, api.ErrRange)
		}
		image := append(fill('A'), make([]byte, 3*128)...)
		if !bytes.Equal(d.Image(), image) {
			t.Errorf("P207: Image")
		}
		if n, s := d.Geometry(); n != 4 || s != 128 || d.On() != on {
			t.Errorf("P207: Geometry %d, %d, On %v", n, s, d.On())
		}
		wantCounts(t, "P207", d, api.Counts{Writes: 6, Through: 2})
	}
	check(true)
	d.Flush()
	check(false)
}

// P208: what Spoil refuses, leaves, and what mends a block.
func TestSpoil(t *testing.T) {
	mends := []struct {
		what string
		act  func(d *Disk)
		want []byte
	}{
		{"Through", func(d *Disk) { d.Through(1, fill('D')) }, fill('D')},
		{"Flush", func(d *Disk) { d.Flush() }, fill('C')},
		{"Crash that keeps one", func(d *Disk) { d.Crash([]byte{1}) }, fill('B')},
		{"Crash that keeps both", func(d *Disk) { d.Crash([]byte{2}) }, fill('C')},
		{"Crash that keeps none", func(d *Disk) { d.Crash([]byte{0}) }, nil},
		{"Crash without picks", func(d *Disk) { d.Crash(nil) }, nil},
		{"Write", func(d *Disk) { d.Write(1, fill('D')) }, nil},
		{"Read", func(d *Disk) { d.Read(1) }, nil},
		{"Flush of another block", func(d *Disk) { d.Crash(nil); d.Write(0, fill('D')); d.Flush() }, nil},
	}
	for _, m := range mends {
		d := fresh(t)
		d.Through(1, fill('A'))
		d.Write(1, fill('B'))
		d.Write(1, fill('C'))
		d.Fuse(0)
		wantErr(t, "P208: no writing step", d.Spoil(1), api.OK, 0)
		wantErr(t, "P208: again", d.Spoil(1), api.OK, 0)
		if !d.On() || d.Waiting(1) != 2 {
			t.Errorf("P208: On %v, Waiting(1) %d", d.On(), d.Waiting(1))
		}
		d.Fuse(-1)
		wantRead(t, "P208: cached writes stay", d, 1, fill('C'))
		wantDurableErr(t, "P208", d, 1, api.ErrMedium)
		m.act(d)
		if m.want != nil {
			wantDurable(t, "P208: "+m.what, d, 1, m.want)
		} else {
			wantDurableErr(t, "P208: "+m.what, d, 1, api.ErrMedium)
		}
	}
	d := fresh(t)
	for _, b := range strangeBlocks {
		wantErr(t, "P208", d.Spoil(b), api.ErrRange, b)
	}
	d.Fuse(0)
	d.Flush()
	wantErr(t, "P208: without power", d.Spoil(2), api.OK, 0)
	wantErr(t, "P208: without power", d.Spoil(4), api.ErrRange, 4)
	d.Crash(nil)
	wantReadErr(t, "P208", d, 2, api.ErrMedium)
	wantRead(t, "P208: another block", d, 1, blank)
}

// P209: each kind of writing step takes one from the fuse; refused ones and others take none.
func TestFuse(t *testing.T) {
	steps := []func(d *Disk) error{
		func(d *Disk) error { return d.Write(0, fill('A')) },
		func(d *Disk) error { return d.Through(1, fill('A')) },
		func(d *Disk) error { return d.Zero(2, 1) },
		func(d *Disk) error { return d.Flush() },
	}
	for fuse := range 4 {
		d := fresh(t)
		d.Spoil(3)
		d.Fuse(fuse)
		for i, s := range steps {
			d.Read(0)
			d.Read(3)
			d.Write(9, nil)
			d.Write(0, nil)
			d.Through(-1, nil)
			d.Zero(0, -1)
			d.Zero(0, 5)
			d.Zero(0, 0)
			d.Spoil(3)
			d.Image()
			if d.On() != (i <= fuse) {
				t.Errorf("P209: fuse %d, ahead of step %d: On %v", fuse, i, d.On())
			}
			if err := s(d); errors.Is(err, api.ErrPower) != (i >= fuse) {
				t.Errorf("P209: fuse %d, step %d: %v", fuse, i, err)
			}
		}
		if d.On() {
			t.Errorf("P209: fuse %d: On", fuse)
		}
	}
}

// P209: one fuse in the place of another, a fuse taken out, a fuse without power.
func TestFuseAgain(t *testing.T) {
	d := fresh(t)
	d.Fuse(0)
	d.Fuse(2)
	wantErr(t, "P209", d.Write(0, fill('A')), api.OK, 0)
	for _, none := range []int{-1, -2, math.MinInt} {
		d.Fuse(0)
		d.Fuse(none)
		for range 5 {
			wantErr(t, "P209: none", d.Write(0, fill('A')), api.OK, 0)
		}
	}
	d.Fuse(math.MaxInt)
	wantErr(t, "P209: long", d.Write(0, fill('A')), api.OK, 0)
	d.Fuse(0)
	d.Flush()
	for _, f := range []int{5, -1, 0} {
		d.Fuse(f)
		if d.On() {
			t.Errorf("P209: Fuse(%d) brought the power back", f)
		}
		wantErr(t, "P209: without power", d.Through(2, fill('B')), api.ErrPower, 2)
	}
	d.Fuse(0)
	d.Crash(nil)
	wantErr(t, "P209: Crash takes it out", d.Write(0, fill('A')), api.OK, 0)
	wantErr(t, "P209: Crash takes it out", d.Flush(), api.OK, 0)
}

// P210: how many of n cached writes the picks keep.
func TestCrashPicks(t *testing.T) {
	letters := []byte("ABCDEFG")
	for n := 1; n <= len(letters); n++ {
		for pick := range 256 {
			d := fresh(t)
			for _, c := range letters[:n] {
				d.Write(2, fill(c))
			}
			d.Crash([]byte{byte(pick)})
			want := blank
			if k := pick % (n + 1); k > 0 {
				want = fill(letters[k-1])
			}
			wantRead(t, "P210", d, 2, want)
			wantDurable(t, "P210", d, 2, want)
		}
	}
}

// P210: which pick goes to which block, with the power on and off.
func TestCrashBlocks(t *testing.T) {
	picks := [][]byte{nil, {}, {1}, {2, 1}, {0, 1, 2}, {2, 0, 1, 1}, {1, 2, 0, 2, 9, 9}}
	for _, p := range picks {
		for _, off := range []bool{false, true} {
			d := fresh(t)
			for b := range 3 {
				d.Write(b, fill('A'))
				d.Write(b, fill('B'))
			}
			d.Fuse(0)
			if off {
				d.Flush()
			}
			kept := slices.Clone(p)
			d.Crash(p)
			if !bytes.Equal(p, kept) {
				t.Errorf("P212: picks changed")
			}
			for b := range 4 {
				want := blank
				if len(p) > 0 && b < 3 {
					want = [][]byte{blank, fill('A'), fill('B')}[p[b%len(p)]%3]
				}
				wantRead(t, "P210", d, b, want)
				if d.Waiting(b) != 0 {
					t.Errorf("P210: Waiting(%d) %d", b, d.Waiting(b))
				}
			}
			wantCached(t, "P210", d)
			if !d.On() {
				t.Errorf("P210: the power is off")
			}
			wantErr(t, "P210: no fuse", d.Flush(), api.OK, 0)
		}
	}
}

// P211: what counts and what does not.
func TestCounts(t *testing.T) {
	d := fresh(t)
	d.Spoil(3)
	for _, b := range []int{0, 1, 3, 4, -1} {
		d.Read(b)
	}
	want := api.Counts{Reads: 2}
	wantCounts(t, "P211: Reads", d, want)
	d.Write(0, fill('A'))
	d.Write(0, nil)
	d.Write(4, fill('A'))
	d.Zero(1, 3)
	d.Zero(1, 0)
	d.Zero(1, 4)
	want.Writes = 4
	wantCounts(t, "P211: Writes", d, want)
	d.Through(0, fill('A'))
	d.Through(0, nil)
	d.Through(-1, fill('A'))
	want.Through = 1
	wantCounts(t, "P211: Through", d, want)
	d.Flush()
	d.Flush()
	want.Flushes = 2
	wantCounts(t, "P211: Flushes", d, want)
	d.Durable(0)
	d.Image()
	d.Cached()
	d.Spoil(1)
	d.Fuse(1)
	d.Zero(0, 4)
	want.Writes = 5
	wantCounts(t, "P211: a Zero that was stopped", d, want)
	d.Read(0)
	d.Write(0, fill('A'))
	d.Through(0, fill('A'))
	d.Flush()
	wantCounts(t, "P211: without power", d, want)
	d.Crash([]byte{1})
	wantCounts(t, "P211: Crash", d, want)
}

// P212: nothing that goes in or out shares memory with the disk.
func TestShared(t *testing.T) {
	image := bytes.Repeat([]byte{'I'}, 512)
	d, _ := Load(4, 128, image)
	other, _ := Load(4, 128, image)
	clear(image)
	wantRead(t, "P212: image kept", d, 0, fill('I'))
	in := fill('A')
	d.Write(0, in)
	d.Through(1, in)
	if !bytes.Equal(in, fill('A')) {
		t.Errorf("P212: data changed")
	}
	clear(in)
	wantRead(t, "P212: data kept", d, 0, fill('A'))
	wantRead(t, "P212: data kept", d, 1, fill('A'))
	scribble := func(data []byte) {
		data = data[:cap(data)]
		for i := range data {
			data[i] = 'Z'
		}
	}
	for range 2 {
		for b := range 4 {
			read, _ := d.Read(b)
			durable, _ := d.Durable(b)
			scribble(read)
			scribble(durable)
		}
		scribble(d.Image())
		d.Zero(3, 1)
		cached := d.Cached()
		for i := range cached {
			cached[i] = 9
		}
		wantRead(t, "P212", d, 0, fill('A'))
		wantRead(t, "P212", d, 1, fill('A'))
		wantRead(t, "P212", d, 2, fill('I'))
		wantRead(t, "P212", d, 3, blank)
		wantRead(t, "P212: two disks", other, 0, fill('I'))
		d.Flush()
		wantCached(t, "P212", d)
	}
}

// P212: a fresh disk's zeroes and a Zero's are each block's own to a caller.
func TestSharedZeroes(t *testing.T) {
	d := fresh(t)
	first, _ := d.Read(0)
	first[0] = 1
	wantRead(t, "P212", d, 0, blank)
	wantRead(t, "P212", d, 1, blank)
	d.Zero(0, 4)
	first, _ = d.Read(0)
	first[0] = 1
	wantRead(t, "P212", d, 0, blank)
	wantRead(t, "P212", d, 1, blank)
	d.Write(0, fill('A'))
	d.Flush()
	wantRead(t, "P212", d, 1, blank)
	other := fresh(t)
	wantRead(t, "P212", other, 0, blank)
}

// P212: each error is new memory.
func TestSharedErrors(t *testing.T) {
	d := fresh(t)
	d.Spoil(1)
	calls := []func() error{
		func() error { _, err := d.Read(1); return err },
		func() error { _, err := d.Durable(1); return err },
		func() error { _, err := d.Read(7); return err },
		func() error { return d.Write(0, nil) },
		func() error { return d.Through(7, nil) },
		func() error { return d.Zero(0, -1) },
		func() error { return d.Spoil(7) },
	}
	for i, call := range calls {
		one, two := call().(*api.BlockError), call().(*api.BlockError)
		if one == two {
			t.Errorf("P212: call %d gives one error twice", i)
		}
		*one = api.BlockError{Block: 77, Err: 77}
		if three := call().(*api.BlockError); *three != *two {
			t.Errorf("P212: call %d: %v, want %v", i, *three, *two)
		}
	}
}
