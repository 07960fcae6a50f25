package actlog

import (
	"bytes"
	"encoding/binary"
	"encoding/hex"
	"hash/crc32"
	"testing"

	"replica/api"
)

const none = 0xffffffff

// fields: a record as P410's table has it.
type fields struct {
	number                   uint32
	age, slots               uint16
	slot, extent, old, start uint32
	context                  [4]uint32
}

func (f fields) block(size int) []byte {
	var w bytes.Buffer
	w.WriteString("actl")
	binary.Write(&w, binary.BigEndian, f)
	w.Write(make([]byte, size-4-w.Len()))
	return summed(append(w.Bytes(), 0, 0, 0, 0))
}

// summed lays the sum that belongs to the rest behind it.
func summed(block []byte) []byte {
	end := len(block) - 4
	binary.BigEndian.PutUint32(block[end:], crc32.Checksum(block[:end], crc32.MakeTable(crc32.Castagnoli)))
	return block
}

func wantBlock(t *testing.T, what string, block []byte, want fields, size int) {
	t.Helper()
	if !bytes.Equal(block, want.block(size)) {
		t.Errorf("%s: %x, want %x", what, block, want.block(size))
	}
}

// firstOfOne is the record of the chapter's third example.
var firstOfOne = fields{number: 6, slots: 1, extent: 3, old: none, context: [4]uint32{3, 3, 3, 3}}

// P410: the third example, byte by byte.
func TestRecordBytes(t *testing.T) {
	for _, size := range []int{128, 256, 512, 1024} {
		l := madeLog(t, 1, 10, size, 6)
		block := wantFresh(t, l, 3, api.Change{Slot: 0, Extent: 3, Old: -1})
		text := "6163746c" + "00000006" + "0000" + "0001" + "00000000" + "00000003" + "ffffffff" + "00000000" + "00000003000000030000000300000003"
		if hex.EncodeToString(block[:44]) != text {
			t.Errorf("%x, want %s", block[:44], text)
		}
		wantBlock(t, "the first record", block, firstOfOne, size)
		wantEnd(t, l, 3, api.OK)
		block = wantFresh(t, l, 4, api.Change{Slot: 0, Extent: 4, Old: 3})
		wantBlock(t, "the second record", block, fields{number: 7, age: 1, slots: 1, extent: 4, old: 3, context: [4]uint32{4, 4, 4, 4}}, size)
	}
}

// P410: the sixth example: contexts that go round.
func TestRecordContexts(t *testing.T) {
	l := madeLog(t, 5, 100, 128, 0)
	for i, want := range []fields{
		{number: 0, age: 0, slots: 5, slot: 0, extent: 10, old: none, start: 0, context: [4]uint32{10, none, none, none}},
		{number: 1, age: 1, slots: 5, slot: 1, extent: 20, old: none, start: 4, context: [4]uint32{none, 10, 20, none}},
		{number: 2, age: 2, slots: 5, slot: 2, extent: 30, old: none, start: 3, context: [4]uint32{none, none, 10, 20}},
		{number: 3, age: 3, slots: 5, slot: 3, extent: 40, old: none, start: 2, context: [4]uint32{30, 40, none, 10}},
	} {
		extent := int(want.extent)
		wantBlock(t, "a record", wantFresh(t, l, extent, api.Change{Slot: i, Extent: extent, Old: -1}), want, 128)
	}
}

// P407, P410: an extent that begins again, or is refused, has no record, and counts in no age, number or start.
func TestRecordsCountAlone(t *testing.T) {
	l := madeLog(t, 2, 10, 128, none)
	wantBlock(t, "the first", wantFresh(t, l, 7, api.Change{Slot: 0, Extent: 7, Old: -1}),
		fields{number: none, slots: 2, slot: 0, extent: 7, old: none, context: [4]uint32{7, none, 7, none}}, 128)
	wantNoRecord(t, l, 7, api.OK)
	wantNoRecord(t, l, 10, api.ErrRange)
	wantEnd(t, l, 7, api.OK)
	wantEnd(t, l, 6, api.ErrCold)
	wantBlock(t, "the second, behind the numbers' wrap", wantFresh(t, l, 8, api.Change{Slot: 1, Extent: 8, Old: -1}),
		fields{number: 0, age: 1, slots: 2, slot: 1, extent: 8, old: none, context: [4]uint32{7, 8, 7, 8}}, 128)
	wantNoRecord(t, l, 9, api.ErrStarved)
	wantEnd(t, l, 7, api.OK)
	wantBlock(t, "the third", wantFresh(t, l, 9, api.Change{Slot: 0, Extent: 9, Old: 7}),
		fields{number: 1, age: 2, slots: 2, slot: 0, extent: 9, old: 7, context: [4]uint32{9, 8, 9, 8}}, 128)
}

// P410: every record of long runs, at each number of slots, held against the table.
func TestRecordsAgainstTable(t *testing.T) {
	for slots := api.MinSlots; slots <= api.MaxSlots; slots++ {
		l := madeLog(t, slots, 1024, 256, 100)
		start := 0
		for age := range 60 {
			extent := 1023 - 17*age
			change := changeBy(l, extent)
			block := wantFresh(t, l, extent, change)
			want := fields{number: uint32(100 + age), age: uint16(age), slots: uint16(slots), slot: uint32(change.Slot), extent: uint32(extent), old: uint32(change.Old), start: uint32(start)}
			for i := range want.context {
				want.context[i] = uint32(l.Slots()[(start+i)%slots])
			}
			wantBlock(t, "a record", block, want, 256)
			start = (start + 4) % slots
			wantEnd(t, l, extent, api.OK)
		}
	}
}

// P410, P412, P413: the age stays 65535, while the start goes on.
func TestGreatestAge(t *testing.T) {
	const slots = 7
	l := madeLog(t, slots, 10, 128, 0)
	ring := [][]byte{make([]byte, 128), make([]byte, 128)}
	for k := range 65540 {
		block := wantFresh(t, l, k%10, changeBy(l, k%10))
		l.End(k % 10)
		ring[k%2] = block
		if k < 65530 {
			continue
		}
		if age := binary.BigEndian.Uint16(block[8:]); int(age) != min(k, 65535) {
			t.Errorf("record %d: age %d", k, age)
		}
		if start := binary.BigEndian.Uint32(block[24:]); int(start) != 4*k%slots {
			t.Errorf("record %d: start %d, want %d", k, start, 4*k%slots)
		}
		wantReplay(t, "record of a great age", slots, 10, ring, l.Slots(), l.Number())
	}
}

// changeBy tells the change that making an extent hot will be, of a log without references.
func changeBy(l *Log, extent int) api.Change {
	row := l.Slots()
	for slot, old := range row {
		if old < 0 {
			return api.Change{Slot: slot, Extent: extent, Old: -1}
		}
	}
	old := l.lru.Keys()[0]
	return api.Change{Slot: l.lru.Slot(old), Extent: extent, Old: old}
}
