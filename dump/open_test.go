package dump

import (
	"bytes"
	"fmt"
	"slices"
	"testing"

	"replica/api"
	"replica/disk"
	"replica/store"
)

// opened: all that P1907 speaks of.
type opened struct {
	e                     api.Errno
	super                 api.Super
	recovery              api.Recovery
	bits, stored, covered string
}

// openedOf opens a store on the disk, which may write to it.
func openedOf(d *disk.Disk) opened {
	s, r, e := store.Open(d)
	if e != api.OK {
		return opened{e: e}
	}
	return opened{super: s.Super(), recovery: r, bits: fmt.Sprint(s.Bits()), stored: fmt.Sprint(s.Stored()), covered: fmt.Sprint(s.Covered())}
}

func (o opened) same(other opened) bool {
	return o.e == other.e && o.super == other.super && o.bits == other.bits && o.stored == other.stored && o.covered == other.covered &&
		o.recovery.Slot == other.recovery.Slot && o.recovery.Crashed == other.recovery.Crashed && o.recovery.AllBits == other.recovery.AllBits && slices.Equal(o.recovery.Hot, other.recovery.Hot)
}

// P1907: what is taken off one disk and restored onto another, on which anything lies, is taken off that one too, and opens as on the first.
func TestRestoredOpens(t *testing.T) {
	taken, crashed, hot := 0, 0, 0
	for seed := range 1200 {
		x := devices[seed%len(devices)]
		from := rolledDisk(seed, x)
		m, e := Take(from)
		if e != api.OK {
			continue
		}
		taken++
		onto := rolledDisk(seed+5000, x)
		data := dataOf(onto, x)
		if e := Restore(onto, m); e != api.OK {
			t.Fatalf("P1907: seed %d: Restore: %d", seed, e)
		}
		wantTaken(t, onto, m)
		if !slices.EqualFunc(dataOf(onto, x), data, bytes.Equal) {
			t.Fatalf("P1905: seed %d: Restore changed data", seed)
		}
		if seed%2 == 0 {
			onto.Crash([]byte{byte(seed), 1, 2})
		}
		want, got := openedOf(from), openedOf(onto)
		want.recovery.Slot = 0
		if !got.same(want) || got.e != api.OK {
			t.Fatalf("P1907: seed %d: restored it opens as %+v, want %+v", seed, got, want)
		}
		if got.recovery.Crashed {
			crashed++
		}
		if len(got.recovery.Hot) > 0 {
			hot++
		}
	}
	if taken < 500 || crashed < 100 || hot < 50 {
		t.Errorf("%d were taken, %d of them of primaries, %d with hot extents", taken, crashed, hot)
	}
}

// dataOf gives the data blocks as they are read; one that cannot be read is nil.
func dataOf(d *disk.Disk, x device) [][]byte {
	data := make([][]byte, x.blocks)
	for block := range data {
		data[block], _ = d.Read(block)
	}
	return data
}

// P1907: by the text too: what was printed and read back is restored alike.
func TestRestoredByText(t *testing.T) {
	roll := dice(23)
	for range 200 {
		m := rolledDump(&roll)
		text, _ := Print(m)
		back, _, _ := Parse(text)
		x := device{m.Super.Blocks, m.Super.Size, m.Super.Slots}
		a, b := newDisk(planOf(x).Total, x.size), newDisk(planOf(x).Total, x.size)
		if Restore(a, m) != api.OK || Restore(b, back) != api.OK || !bytes.Equal(a.Image(), b.Image()) {
			t.Fatalf("P1904, P1907: %+v is restored by its text to other bytes", m)
		}
		wantTaken(t, b, m)
	}
}

// P1907: wherever the power fails in a Restore the disk opens as ahead of it, as behind it, or not at all.
func TestRestoreTorn(t *testing.T) {
	ways := map[string]int{}
	for seed := range 200 {
		x := devices[seed%len(devices)]
		roll := dice(seed * 37)
		m := rolledFor(&roll, x.blocks, x.size, x.slots)
		fresh := func() *disk.Disk {
			d := rolledDisk(seed, x)
			d.Crash([]byte{byte(seed)})
			return d
		}
		before := openedOf(fresh())
		whole := fresh()
		Restore(whole, m)
		after := openedOf(whole)
		steps := len(plainWrites(m, 0))
		for fuse := range steps + 1 {
			d := fresh()
			d.Fuse(fuse)
			e := Restore(d, m)
			d.Crash(nil)
			found := openedOf(d)
			switch {
			case e == api.OK && found.same(after):
				ways["after"]++
			case e == api.ErrPower && fuse < 2 && found.same(before):
				ways["before"]++
			case e == api.ErrPower && fuse >= 2 && found.same(opened{e: api.ErrSuper}):
				ways["none"]++
			default:
				t.Fatalf("P1907: seed %d, fuse %d: Restore %d, opens as %+v, ahead %+v, behind %+v", seed, fuse, e, found, before, after)
			}
			if again := Restore(d, m); again != api.OK {
				t.Fatalf("P1905: seed %d, fuse %d: Restore anew: %d", seed, fuse, again)
			}
			wantTaken(t, d, m)
		}
	}
	if ways["after"] < 200 || ways["before"] < 400 || ways["none"] < 400 {
		t.Errorf("%v", ways)
	}
}
