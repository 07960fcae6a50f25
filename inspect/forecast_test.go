package inspect

import (
	"testing"

	"replica/api"
	"replica/disk"
)

// half: one of two disks: its identifiers and flags, the blocks that are marked on it.
type half struct {
	gens  api.Gens
	flags uint32
	marks list
}

func gens(current, bitmap, old1, old2 uint64) api.Gens {
	return api.Gens{Current: current, Bitmap: bitmap, Old1: old1, Old2: old2}
}

const (
	good    = api.FlagConsistent
	old     = api.FlagConsistent | api.FlagOutdated
	crashed = api.FlagConsistent | api.FlagCrashed
	primary = api.FlagConsistent | api.FlagPrimary
)

// verdictCase: what two halves come to, seen from the first one; symmetric: the other way about it is the mirror.
type verdictCase struct {
	what      string
	a, b      half
	sb0       int
	kind      int
	rule      int
	err       api.Errno
	marked    list
	symmetric bool
}

func verdictCases() []verdictCase {
	no, ab, ba, full := api.NoSync, api.SourceBits, api.TargetBits, api.SourceFull
	return []verdictCase{
		{"both are new", half{gens(4, 0, 0, 0), 0, list{1}}, half{gens(0, 0, 0, 0), 0, list{2}}, 0, no, 1, 0, nil, true},
		{"both are new and good, and marked", half{gens(4, 0, 0, 0), good, list{1}}, half{gens(4, 0, 0, 0), good, list{2, 1}}, 0, ab, 23, 0, list{1, 2}, false},
		{"one is new", half{gens(20, 0, 0, 0), good, nil}, half{gens(4, 0, 0, 0), 0, list{1}}, 0, full, 2, 0, all(8), true},
		{"one has crashed", half{gens(20, 0, 0, 0), crashed, list{4}}, half{gens(20, 0, 0, 0), good, list{2}}, 0, ab, 3, 0, list{2, 4}, true},
		{"one was primary", half{gens(20, 0, 0, 0), primary, list{4}}, half{gens(20, 0, 0, 0), good, nil}, 0, ab, 3, 0, list{4}, true},
		{"both have crashed", half{gens(20, 0, 0, 0), crashed, list{4}}, half{gens(20, 0, 0, 0), primary, nil}, 0, ab, 4, 0, list{4}, false},
		{"one's bitmap counts", half{gens(20, 10, 0, 0), good, list{7}}, half{gens(20, 0, 10, 0), good, nil}, 0, ab, 5, 0, list{7}, true},
		{"the same", half{gens(20, 0, 0, 0), good, nil}, half{gens(20, 0, 10, 0), good, nil}, 0, no, 6, 0, nil, true},
		{"the same, and marked", half{gens(20, 0, 0, 0), good, nil}, half{gens(20, 0, 0, 0), good, list{0, 7}}, 0, ab, 23, 0, list{0, 7}, false},
		{"the same, and marked at the first", half{gens(20, 0, 0, 0), good, list{3}}, half{gens(20, 0, 0, 0), good, nil}, 0, ab, 23, 0, list{3}, false},
		{"the same and outdated, and marked", half{gens(20, 0, 0, 0), old, list{3}}, half{gens(20, 0, 0, 0), old, list{5}}, 0, no, 6, 0, nil, true},
		{"the same and inconsistent, and marked", half{gens(20, 0, 0, 0), 0, list{3}}, half{gens(20, 0, 0, 0), 0, list{5}}, 0, no, 6, 0, nil, true},
		{"the same, one is outdated", half{gens(20, 0, 0, 0), good, nil}, half{gens(20, 0, 0, 0), old, list{5}}, 0, ab, 20, 0, list{5}, true},
		{"the same, one is inconsistent", half{gens(20, 0, 0, 0), old, nil}, half{gens(20, 0, 0, 0), 0, nil}, 0, ab, 20, 0, nil, true},
		{"inconsistent counts ahead of outdated", half{gens(20, 0, 0, 0), old, nil}, half{gens(20, 0, 0, 0), api.FlagOutdated, list{5}}, 0, ab, 20, 0, list{5}, true},
		{"both bitmaps count", half{gens(20, 10, 0, 0), good, nil}, half{gens(20, 12, 0, 0), good, list{1}}, 0, ab, 7, 0, list{1}, false},
		{"each went on from the other", half{gens(20, 10, 0, 0), good, list{1}}, half{gens(10, 20, 0, 0), good, list{1}}, 0, api.SplitBits, 8, api.ErrSplit, nil, true},
		{"one went on alone", half{gens(20, 10, 0, 0), good, list{1}}, half{gens(10, 0, 0, 0), good, list{2}}, 0, ab, 9, 0, list{1, 2}, true},
		{"one went on alone, inconsistent", half{gens(20, 10, 0, 0), 0, list{1}}, half{gens(10, 0, 0, 0), good, list{2}}, 0, ba, 20, 0, list{1, 2}, true},
		{"one went on alone, both inconsistent", half{gens(20, 10, 0, 0), 0, list{1}}, half{gens(10, 0, 0, 0), 0, list{2}}, 0, ab, 9, api.ErrDisk, nil, true},
		{"one is new, both inconsistent", half{gens(20, 10, 0, 0), 0, list{1}}, half{gens(4, 0, 0, 0), 0, list{2}}, 0, full, 2, api.ErrDisk, nil, true},
		{"each is the other's past", half{gens(20, 0, 10, 0), good, nil}, half{gens(10, 0, 0, 20), good, nil}, 0, api.SplitFull, 10, api.ErrSplit, nil, true},
		{"one is the other's past", half{gens(20, 0, 10, 0), good, nil}, half{gens(10, 0, 0, 0), good, list{3}}, 0, full, 11, 0, all(8), true},
		{"both went on from one", half{gens(20, 10, 0, 0), good, list{1}}, half{gens(22, 10, 0, 0), good, list{1}}, 0, api.SplitBits, 12, api.ErrSplit, nil, true},
		{"both went on from one, one inconsistent", half{gens(20, 10, 0, 0), 0, list{1}}, half{gens(22, 10, 0, 0), good, list{1}}, 0, ba, 20, 0, list{1}, true},
		{"both were primary", half{gens(20, 10, 0, 0), primary, list{1}}, half{gens(22, 10, 0, 0), primary, list{1}}, 0, api.SplitBits, 12, api.ErrSplit, nil, true},
		{"a past in common", half{gens(20, 0, 10, 0), good, nil}, half{gens(22, 10, 0, 0), good, nil}, 0, api.SplitFull, 13, api.ErrSplit, nil, true},
		{"nothing in common", half{gens(20, 0, 0, 0), good, list{1}}, half{gens(22, 0, 0, 0), good, list{2}}, 0, api.Unrelated, 14, api.ErrUnrelated, nil, true},
		{"nothing in common, both inconsistent", half{gens(20, 0, 0, 0), 0, list{1}}, half{gens(22, 0, 0, 0), 0, list{2}}, 0, api.Unrelated, 14, api.ErrUnrelated, nil, true},
		{"nothing in common, under a policy", half{gens(20, 0, 0, 0), good, nil}, half{gens(22, 0, 0, 0), good, nil}, api.SbNode0, api.Unrelated, 14, api.ErrUnrelated, nil, true},
		{"no change at one", half{gens(20, 10, 0, 0), good, nil}, half{gens(22, 10, 0, 0), good, list{1}}, api.SbZero, ba, 22, 0, list{1}, true},
		{"changes at both", half{gens(20, 10, 0, 0), good, list{1}}, half{gens(22, 10, 0, 0), good, list{2}}, api.SbZero, api.SplitBits, 12, api.ErrSplit, nil, true},
		{"no change at either", half{gens(20, 10, 0, 0), good, nil}, half{gens(22, 10, 0, 0), good, nil}, api.SbZero, api.SplitBits, 12, api.ErrSplit, nil, true},
		{"fewer changes", half{gens(20, 10, 0, 0), good, list{1}}, half{gens(22, 10, 0, 0), good, list{1, 2}}, api.SbLeast, ba, 22, 0, list{1, 2}, true},
		{"as many changes", half{gens(20, 10, 0, 0), good, list{1}}, half{gens(22, 10, 0, 0), good, list{2}}, api.SbLeast, ab, 22, 0, list{1, 2}, false},
		{"fewer changes, of all blocks", half{gens(20, 0, 10, 0), good, list{1}}, half{gens(22, 10, 0, 0), good, nil}, api.SbLeast, full, 22, 0, all(8), true},
		{"node 0", half{gens(20, 10, 0, 0), good, list{1}}, half{gens(22, 10, 0, 0), good, nil}, api.SbNode0, ba, 22, 0, list{1}, false},
		{"node 1", half{gens(20, 10, 0, 0), good, nil}, half{gens(22, 10, 0, 0), good, list{1}}, api.SbNode1, ab, 22, 0, list{1}, false},
	}
}

// P2003, P2004: every rule, from both ends; blocks 1, 5 and 7 of the second disk differ.
func TestVerdicts(t *testing.T) {
	for _, x := range verdictCases() {
		c := with(func(c *api.Config) { c.Sb0, c.Sb1 = x.sb0, api.SbSecondary })
		a, b := formatted(t, c, x.a.gens, x.a.flags, x.a.marks...), formatted(t, c, x.b.gens, x.b.flags, x.b.marks...)
		want := api.Forecast{Verdict: api.Verdict{Kind: x.kind, Rule: x.rule}, Err: x.err, Marked: x.marked}
		for _, block := range []int{1, 5, 7} {
			b.Through(block, fill(c, 200+block))
			if has(x.marked, block) {
				want.Ship = append(want.Ship, block)
			} else {
				want.Hidden = append(want.Hidden, block)
			}
		}
		tells(t, x.what, a, b, c, want)
		if x.symmetric {
			want.Verdict = mirrored(want.Verdict)
			tells(t, x.what+", the other way about", b, a, c, want)
		}
	}
}

func has(s list, x int) bool {
	for _, y := range s {
		if y == x {
			return true
		}
	}
	return false
}

// P2003: what is marked by a start counts, not what is stored: the hot extents of a node that was primary, a bitmap that is lost.
func TestMarkedByTheStart(t *testing.T) {
	c := with(func(c *api.Config) { c.Sb0 = api.SbLeast })
	a := formatted(t, c, gens(20, 10, 0, 0), primary)
	opened(t, a).Begin(5)
	b := formatted(t, c, gens(22, 10, 0, 0), good, 0, 1, 2)
	tells(t, "four blocks of an extent, and three", a, b, c, api.Forecast{Verdict: api.Verdict{Kind: api.SourceBits, Rule: 22}, Marked: list{0, 1, 2, 4, 5, 6, 7}})
	a = formatted(t, c, gens(20, 10, 0, 0), good)
	opened(t, a).Begin(5)
	tells(t, "of a secondary none", a, b, c, api.Forecast{Verdict: api.Verdict{Kind: api.TargetBits, Rule: 22}, Marked: list{0, 1, 2}})
	a, b = clean(t, c), clean(t, c)
	b.Spoil(planOf(c).Bitmap)
	tells(t, "a lost bitmap", a, b, c, api.Forecast{Verdict: api.Verdict{Kind: api.SourceBits, Rule: 23}, Marked: all(8)})
	b = clean(t, c)
	b.Spoil(planOf(c).Log)
	tells(t, "a lost ring", a, b, c, api.Forecast{Verdict: api.Verdict{Kind: api.SourceBits, Rule: 23}, Marked: all(8)})
}

// P2004: each way in which a block may be unlike, of a resync by bits and of none.
func TestUnlike(t *testing.T) {
	c := resource()
	lay := []func(d *disk.Disk, block int){
		func(d *disk.Disk, block int) { d.Through(block, fill(c, 1)) },
		func(d *disk.Disk, block int) { d.Through(block, fill(c, 2)) },
		func(d *disk.Disk, block int) { d.Spoil(block) },
	}
	const spoilt = 2
	for first, layA := range lay {
		for second, layB := range lay {
			for marked := range 2 {
				for block := range 8 {
					a, b := formatted(t, c, gens(20, 10, 0, 0), good), formatted(t, c, gens(10, 0, 0, 0), good)
					if marked == 1 {
						opened(t, b).Mark(block)
					}
					layA(a, block)
					layB(b, block)
					want := api.Forecast{Verdict: api.Verdict{Kind: api.SourceBits, Rule: 9}}
					back := api.Forecast{Verdict: api.Verdict{Kind: api.TargetBits, Rule: 9}}
					if marked == 1 {
						want.Marked = list{block}
					}
					switch {
					case first == second && first != spoilt:
					case marked == 1 && first != spoilt:
						want.Ship = list{block}
					default:
						want.Hidden = list{block}
					}
					back.Marked, back.Ship, back.Hidden = want.Marked, want.Ship, want.Hidden
					tells(t, "unlike", a, b, c, want)
					tells(t, "unlike, the other way about", b, a, c, back)
				}
			}
		}
	}
	a, b := clean(t, c), clean(t, c)
	a.Spoil(0)
	b.Spoil(7)
	tells(t, "unreadable", a, b, c, api.Forecast{Verdict: api.Verdict{Kind: api.NoSync, Rule: 6}, Hidden: list{0, 7}})
	tells(t, "a disk and itself", a, a, c, api.Forecast{Verdict: api.Verdict{Kind: api.NoSync, Rule: 6}, Hidden: list{0}})
}

// P2004: the greatest device, all of it looked at.
func TestGreatestDevice(t *testing.T) {
	c := sized(api.MaxBlocks, api.MaxSize, api.MaxSlots)
	a, b := clean(t, c), nodeDisk(t, c, false, 0)
	b.Through(0, fill(c, 1))
	a.Through(4095, fill(c, 1))
	a.Spoil(77)
	b.Spoil(78)
	tells(t, "4096 blocks", a, b, c, api.Forecast{Verdict: api.Verdict{Kind: api.SourceFull, Rule: 2}, Marked: all(4096), Ship: list{0, 78, 4095}, Hidden: list{77}})
}
