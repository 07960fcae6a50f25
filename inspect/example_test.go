package inspect

import (
	"testing"

	"replica/api"
	"replica/disk"
	"replica/node"
)

// alone lets a node on the disk be promoted and write into those blocks.
func alone(t testing.TB, d *disk.Disk, c api.Config, number int, flush bool, blocks ...int) {
	t.Helper()
	n, e := node.New(d, c, number)
	if e != api.OK {
		t.Fatalf("New: %v", e)
	}
	if _, e := n.Promote(false); e != api.OK {
		t.Fatalf("Promote: %v", e)
	}
	for k, b := range blocks {
		if _, e := n.Submit(api.Op{Id: k + 1, Kind: api.OpWrite, Block: b, Data: fill(c, 100+b)}); e != api.OK {
			t.Fatalf("Submit: %v", e)
		}
	}
	if flush {
		n.Submit(api.Op{Id: 99, Kind: api.OpFlush})
	}
}

func superOf(seq uint64, gens api.Gens, flags uint32, mark int) api.Super {
	return api.Super{Seq: seq, Blocks: 8, Size: 128, Slots: 2, Gens: gens, Flags: flags, Mark: mark}
}

func TestExampleClean(t *testing.T) {
	c := resource()
	a, b := clean(t, c), clean(t, c)
	looks(t, "example 1", a, c, api.Dump{Super: superOf(1, api.Gens{Current: 1024}, 1, 8), Bits: []uint64{0}, Slots: list{-1, -1}})
	none := api.Verdict{Kind: api.NoSync, Rule: 6}
	tells(t, "example 1", a, b, c, api.Forecast{Verdict: none})
	b.Through(3, fill(c, 7))
	tells(t, "example 2", a, b, c, api.Forecast{Verdict: none, Hidden: list{3}})
	tells(t, "example 2, the other way about", b, a, c, api.Forecast{Verdict: none, Hidden: list{3}})
	tells(t, "a disk and itself", b, b, c, api.Forecast{Verdict: none})
}

func TestExampleAlone(t *testing.T) {
	c := resource()
	a, b := clean(t, c), clean(t, c)
	alone(t, a, c, 0, false, 3)
	looks(t, "example 3", a, c, api.Dump{Super: superOf(3, api.Gens{Current: 72, Bitmap: 1024}, 9, 3), Bits: []uint64{8}, Slots: list{-1, -1}})
	source, target := api.Verdict{Kind: api.SourceBits, Rule: 9}, api.Verdict{Kind: api.TargetBits, Rule: 9}
	tells(t, "example 3", a, b, c, api.Forecast{Verdict: source, Marked: list{3}})
	a.Flush()
	tells(t, "example 3, durable", a, b, c, api.Forecast{Verdict: source, Marked: list{3}, Ship: list{3}})
	tells(t, "example 3, the other way about", b, a, c, api.Forecast{Verdict: target, Marked: list{3}, Ship: list{3}})
	b.Spoil(3)
	tells(t, "example 6, the target's block", a, b, c, api.Forecast{Verdict: source, Marked: list{3}, Ship: list{3}})
	tells(t, "example 6, the target's block, the other way about", b, a, c, api.Forecast{Verdict: target, Marked: list{3}, Ship: list{3}})
	a.Spoil(3)
	tells(t, "both blocks", a, b, c, api.Forecast{Verdict: source, Marked: list{3}, Hidden: list{3}})
	b.Through(3, fill(c, 0))
	tells(t, "example 6, the source's block", a, b, c, api.Forecast{Verdict: source, Marked: list{3}, Hidden: list{3}})
	tells(t, "example 6, the source's block, the other way about", b, a, c, api.Forecast{Verdict: target, Marked: list{3}, Hidden: list{3}})
}

func TestExampleSplit(t *testing.T) {
	c := resource()
	a, b := clean(t, c), clean(t, c)
	alone(t, a, c, 0, true, 3)
	alone(t, b, c, 1, true, 5)
	tells(t, "example 4", a, b, c, api.Forecast{Verdict: api.Verdict{Kind: api.SplitBits, Rule: 12}, Err: api.ErrSplit, Hidden: list{3, 5}})
	c.Sb0 = api.SbLeast
	tells(t, "example 4, the least", a, b, c, api.Forecast{Verdict: api.Verdict{Kind: api.SourceBits, Rule: 22}, Marked: list{3, 5}, Ship: list{3, 5}})
}

func TestExampleNew(t *testing.T) {
	c := resource()
	a, b := clean(t, c), nodeDisk(t, c, false, 0)
	tells(t, "example 5", a, b, c, api.Forecast{Verdict: api.Verdict{Kind: api.SourceFull, Rule: 2}, Marked: all(8)})
	tells(t, "example 5, the other way about", b, a, c, api.Forecast{Verdict: api.Verdict{Kind: api.TargetFull, Rule: 2}, Marked: all(8)})
	tells(t, "example 5, both", nodeDisk(t, c, false, 0), b, c, api.Forecast{Verdict: api.Verdict{Kind: api.NoSync, Rule: 1}})
	tells(t, "example 5, unrelated", a, nodeDisk(t, c, true, 2048), c, api.Forecast{Verdict: api.Verdict{Kind: api.Unrelated, Rule: 14}, Err: api.ErrUnrelated})
}

func TestExampleRefused(t *testing.T) {
	c := resource()
	lookRefused(t, "example 7, no disk", nil, c, api.ErrArg)
	zeroes, _ := disk.New(12, 128)
	lookRefused(t, "example 7, zeroes", zeroes, c, api.ErrSuper)
	lookRefused(t, "example 7, of 16 blocks", clean(t, sized(16, 128, 2)), c, api.ErrField)
	forecastRefused(t, "example 7, no disks", nil, nil, c, api.ErrArg)
}
