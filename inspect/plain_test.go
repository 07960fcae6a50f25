package inspect

import (
	"bytes"
	"slices"

	"replica/actlog"
	"replica/api"
	"replica/conf"
	"replica/disk"
	"replica/ident"
	"replica/meta"
)

func isSet(words []uint64, bit int) bool { return words[bit/64]>>(bit%64)&1 == 1 }

func countSet(words []uint64) int {
	n := 0
	for bit := range 64 * len(words) {
		if isSet(words, bit) {
			n++
		}
	}
	return n
}

// plainLook: P2002, by the chapter's words.
func plainLook(d *disk.Disk, c api.Config) (api.Dump, api.Errno) {
	if d == nil {
		return api.Dump{}, api.ErrArg
	}
	if e := conf.Check(c); e != api.OK {
		return api.Dump{}, e
	}
	total, size := d.Geometry()
	read := func(first, count int) [][]byte {
		list := make([][]byte, count)
		for k := range list {
			list[k], _ = d.Durable(first + k)
		}
		return list
	}
	slots := read(total-2, 2)
	super, _, e := meta.Choose(slots[0], slots[1])
	if e != api.OK {
		return api.Dump{}, e
	}
	l, _ := meta.Plan(super.Blocks, super.Size, super.Slots)
	if super.Size != size || l.Total != total || super.Blocks != c.Blocks || super.Size != c.Size || super.Slots != c.Slots {
		return api.Dump{}, api.ErrField
	}
	primary := super.Flags&4 != 0
	if primary && super.Seq == 1<<62 {
		return api.Dump{}, api.ErrFull
	}
	stored, lost, _ := meta.Unpack(l.Blocks, read(l.Bitmap, l.BitmapBlocks), size)
	extents, _, e := actlog.Replay(l.Slots, (l.Blocks+3)/4, read(l.Log, l.LogBlocks))
	broken := e != api.OK
	if broken {
		extents = slices.Repeat([]int{-1}, l.Slots)
	}
	bits := make([]uint64, len(stored))
	least := l.Blocks
	for b := l.Blocks - 1; b >= 0; b-- {
		if lost || broken || isSet(stored, b) || primary && slices.Contains(extents, b/4) {
			bits[b/64] |= 1 << (b % 64)
			least = b
		}
	}
	super.Mark = min(super.Mark, least)
	if primary {
		super.Seq++
		super.Flags = super.Flags - 4 | 8
	}
	return api.Dump{Super: super, Bits: bits, Slots: extents}, api.OK
}

func plainState(flags uint32) int {
	return [...]int{api.Inconsistent, api.UpToDate, api.Inconsistent, api.Outdated}[flags%4]
}

// plainJudge: P2003, by the chapter's words.
func plainJudge(a, b api.Dump, c api.Config) (api.Verdict, api.Errno) {
	sa, sb := a.Super, b.Super
	v1 := ident.Compare(0, sa.Gens, sa.Flags, sb.Gens, sb.Flags)
	v2, e := ident.Settle(v1, plainState(sa.Flags), plainState(sb.Flags))
	if e != api.OK {
		return v1, e
	}
	if v2.Kind == api.Unrelated {
		return v2, api.ErrUnrelated
	}
	na, nb := countSet(a.Bits), countSet(b.Bits)
	v3, e := ident.Resolve(v2, 0, c.Sb0, c.Sb1, c.Sb2, api.Secondary, api.Secondary, na, nb, sa.Flags, sb.Flags)
	if e != api.OK {
		panic("Resolve refuses")
	}
	if v3.Kind == api.SplitBits || v3.Kind == api.SplitFull {
		return v3, api.ErrSplit
	}
	if v3.Kind == api.NoSync && sa.Flags%4 == 1 && sb.Flags%4 == 1 && (na > 0 || nb > 0) {
		return api.Verdict{Kind: api.SourceBits, Rule: 23}, api.OK
	}
	return v3, api.OK
}

// plainForecast: P2003 and P2004, block by block.
func plainForecast(a, b *disk.Disk, c api.Config) (api.Forecast, api.Errno) {
	ma, e := plainLook(a, c)
	if e != api.OK {
		return api.Forecast{}, e
	}
	mb, e := plainLook(b, c)
	if e != api.OK {
		return api.Forecast{}, e
	}
	var f api.Forecast
	f.Verdict, f.Err = plainJudge(ma, mb, c)
	kind := f.Verdict.Kind
	for block := range c.Blocks {
		da, ea := a.Durable(block)
		db, eb := b.Durable(block)
		marked := kind == api.SourceFull || kind == api.TargetFull
		if kind == api.SourceBits || kind == api.TargetBits {
			marked = isSet(ma.Bits, block) || isSet(mb.Bits, block)
		}
		marked = marked && f.Err == api.OK
		if marked {
			f.Marked = append(f.Marked, block)
		}
		if ea == nil && eb == nil && bytes.Equal(da, db) {
			continue
		}
		sourceReads := ea == nil
		if kind == api.TargetBits || kind == api.TargetFull {
			sourceReads = eb == nil
		}
		if marked && sourceReads {
			f.Ship = append(f.Ship, block)
		} else {
			f.Hidden = append(f.Hidden, block)
		}
	}
	return f, api.OK
}
