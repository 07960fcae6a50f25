package store

import (
	"slices"

	"replica/actlog"
	"replica/api"
	"replica/meta"
)

// platter: a disk as its chapter has it, with every block's bytes in plain sight.
type platter struct {
	size    int
	durable [][]byte // nil: spoilt
	cached  [][][]byte
	fuse    int
	off     bool
	counts  api.Counts
}

func newPlatter(blocks, size int) *platter {
	p := &platter{size: size, fuse: -1, cached: make([][][]byte, blocks)}
	for range blocks {
		p.durable = append(p.durable, make([]byte, size))
	}
	return p
}

func (p *platter) step() bool {
	p.off = p.off || p.fuse == 0
	if !p.off {
		p.fuse--
	}
	return !p.off
}

func (p *platter) read(block int) ([]byte, api.Errno) {
	switch {
	case block < 0:
		return nil, api.ErrRange
	case p.off:
		return nil, api.ErrPower
	case len(p.cached[block]) > 0:
		return p.cached[block][len(p.cached[block])-1], api.OK
	case p.durable[block] == nil:
		return nil, api.ErrMedium
	}
	return p.durable[block], api.OK
}

func (p *platter) write(block int, data []byte) bool {
	if !p.step() {
		return false
	}
	p.cached[block] = append(p.cached[block], slices.Clone(data))
	p.counts.Writes++
	return true
}

func (p *platter) through(block int, data []byte) bool {
	if !p.step() {
		return false
	}
	p.durable[block], p.cached[block] = slices.Clone(data), nil
	p.counts.Through++
	return true
}

func (p *platter) flush() bool {
	if !p.step() {
		return false
	}
	p.settle(func(_, n int) int { return n })
	p.counts.Flushes++
	return true
}

func (p *platter) crash(picks []byte) {
	p.settle(func(block, n int) int {
		if len(picks) == 0 {
			return 0
		}
		return int(picks[block%len(picks)]) % (n + 1)
	})
	p.off, p.fuse = false, -1
}

func (p *platter) settle(kept func(block, n int) int) {
	for block, writes := range p.cached {
		if k := kept(block, len(writes)); k > 0 {
			p.durable[block] = writes[k-1]
		}
		p.cached[block] = nil
	}
}

// plain: a store as its chapter's words have it, a bool a bit, each call written out by itself.
type plain struct {
	disk           *platter
	blocks         int
	layout         api.Layout
	super          api.Super
	slot           int
	marked, stored []bool
	log            *actlog.Log
	named          []int // what Replay told at Open
	records        int
	down           bool
}

func plainFormat(d *platter, blocks, slots int, gens api.Gens, flags uint32, marked bool) api.Errno {
	l, e := meta.Plan(blocks, d.size, slots)
	if e != api.OK || flags > 15 {
		return api.ErrArg
	}
	if l.Total != len(d.durable) {
		return api.ErrSize
	}
	zeroes := make([]byte, d.size)
	super := api.Super{Seq: 1, Blocks: blocks, Size: d.size, Slots: slots, Gens: gens, Flags: flags, Mark: blocks}
	bits := make([]bool, blocks)
	if marked {
		super.Mark = 0
		for b := range bits {
			bits[b] = true
		}
	}
	done := d.through(l.Super, zeroes) && d.through(l.Super+1, zeroes)
	for k := range l.BitmapBlocks {
		done = done && d.through(l.Bitmap+k, areaBlock(bits, k, d.size))
	}
	for k := range l.LogBlocks {
		done = done && d.through(l.Log+k, zeroes)
	}
	seal, _ := meta.Seal(super)
	if done = done && d.through(l.Super, seal); !done {
		return api.ErrPower
	}
	return api.OK
}

// areaBlock is block k of the bitmap's area, bit by bit.
func areaBlock(bits []bool, k, size int) []byte {
	block := make([]byte, size)
	for b, set := range bits {
		if set && b/(8*size) == k {
			block[b%(8*size)/8] |= 1 << (b % 8)
		}
	}
	return block
}

func wordsOf(bits []bool) []uint64 {
	words := make([]uint64, (len(bits)+63)/64)
	for b, set := range bits {
		if set {
			words[b/64] |= 1 << (b % 64)
		}
	}
	return words
}

func has(words []uint64, b int) bool { return words[b/64]>>(b%64)&1 == 1 }

func plainOpen(d *platter) (*plain, api.Recovery, api.Errno) {
	none := api.Recovery{}
	total := len(d.durable)
	if d.off {
		return nil, none, api.ErrPower
	}
	first, _ := d.read(total - 2)
	second, _ := d.read(total - 1)
	super, slot, e := meta.Choose(first, second)
	if e != api.OK {
		return nil, none, api.ErrSuper
	}
	l, e := meta.Plan(super.Blocks, super.Size, super.Slots)
	if e != api.OK || super.Size != d.size || l.Total != total {
		return nil, none, api.ErrField
	}
	p := &plain{disk: d, blocks: super.Blocks, layout: l, super: super, slot: slot, marked: make([]bool, super.Blocks), stored: make([]bool, super.Blocks)}
	r := api.Recovery{Slot: slot, Crashed: super.Flags&api.FlagPrimary != 0}
	write := make([]bool, l.BitmapBlocks)
	for b := range p.stored {
		k := b / (8 * d.size)
		block, e := d.read(l.Bitmap + k)
		if e != api.OK {
			r.AllBits, write[k] = true, true
		}
		p.stored[b] = e != api.OK || block[b%(8*d.size)/8]>>(b%8)&1 == 1
	}
	ring := make([][]byte, l.LogBlocks)
	for k := range ring {
		ring[k], _ = d.read(l.Log + k)
	}
	extents := (super.Blocks + 3) / 4
	slots, number, e := actlog.Replay(super.Slots, extents, ring)
	broken := e != api.OK
	r.AllBits = r.AllBits || broken
	for x := range extents {
		if slices.Contains(slots, x) {
			p.named = append(p.named, x)
		}
	}
	if r.Crashed {
		r.Hot = slices.Clone(p.named)
	}
	for b := range p.marked {
		p.marked[b] = p.stored[b] || r.AllBits || slices.Contains(r.Hot, b/4)
		if p.marked[b] && !p.stored[b] {
			write[b/(8*d.size)] = true
		}
	}
	for k, due := range write {
		if due && !d.through(l.Bitmap+k, areaBlock(p.marked, k, d.size)) {
			return nil, none, api.ErrPower
		}
	}
	p.stored = slices.Clone(p.marked)
	for k := range ring {
		if broken && !d.through(l.Log+k, make([]byte, d.size)) {
			return nil, none, api.ErrPower
		}
	}
	p.log, _ = actlog.New(super.Slots, extents, d.size, number)
	p.super.Mark = min(p.super.Mark, p.least())
	return p, r, api.OK
}

// least is the least marked block, or Blocks.
func (p *plain) least() int {
	if b := slices.Index(p.marked, true); b >= 0 {
		return b
	}
	return p.blocks
}

func (p *plain) power(done bool) api.Errno {
	if !done {
		p.down = true
		return api.ErrPower
	}
	return api.OK
}

// refuses: what stands ahead of all else in the calls that are given a block; size -1: they are given no data.
func (p *plain) refuses(block, size int) api.Errno {
	switch {
	case p.down:
		return api.ErrPower
	case block < 0 || block >= p.blocks:
		return api.ErrRange
	case size >= 0 && size != p.disk.size:
		return api.ErrSize
	}
	return api.OK
}

func (p *plain) read(block int) ([]byte, api.Errno) {
	if e := p.refuses(block, -1); e != api.OK {
		return nil, e
	}
	data, e := p.disk.read(block)
	p.down = p.down || e == api.ErrPower
	return data, e
}

func (p *plain) begin(block int) api.Errno {
	if e := p.refuses(block, -1); e != api.OK {
		return e
	}
	number := p.log.Number()
	_, record, e := p.log.Begin(block / 4)
	if e != api.OK || record == nil {
		return e
	}
	place := p.layout.Log + int(number)%actlog.Ring(p.super.Slots)
	if e := p.power(p.disk.through(place, record)); e != api.OK {
		return e
	}
	p.records++
	return api.OK
}

func (p *plain) end(block int) api.Errno {
	if e := p.refuses(block, -1); e != api.OK {
		return e
	}
	return p.log.End(block / 4)
}

func (p *plain) write(block int, data []byte) api.Errno {
	if e := p.refuses(block, len(data)); e != api.OK {
		return e
	}
	if p.log.Refs(block/4) == 0 && !(p.marked[block] && p.stored[block]) {
		return api.ErrCover
	}
	return p.power(p.disk.write(block, data))
}

func (p *plain) apply(block int, data []byte) api.Errno {
	if e := p.refuses(block, len(data)); e != api.OK {
		return e
	}
	return p.power(p.disk.write(block, data))
}

func (p *plain) through(block int, data []byte) api.Errno {
	if e := p.refuses(block, len(data)); e != api.OK {
		return e
	}
	return p.power(p.disk.through(block, data))
}

func (p *plain) flush() api.Errno {
	if p.down {
		return api.ErrPower
	}
	return p.power(p.disk.flush())
}

func (p *plain) waiting(block int) int {
	if p.refuses(block, -1) != api.OK {
		return 0
	}
	return len(p.disk.cached[block])
}

// lay stores bits: each block of the area in which one is other than stored.
func (p *plain) lay(bits []bool) api.Errno {
	size := p.disk.size
	for k := range p.layout.BitmapBlocks {
		due := false
		for b := k * 8 * size; b < min((k+1)*8*size, p.blocks); b++ {
			due = due || bits[b] != p.stored[b]
		}
		if due && !p.disk.through(p.layout.Bitmap+k, areaBlock(bits, k, size)) {
			return p.power(false)
		}
	}
	p.stored = slices.Clone(bits)
	return api.OK
}

func (p *plain) mark(block int) (bool, api.Errno) {
	if e := p.refuses(block, -1); e != api.OK {
		return false, e
	}
	bits := slices.Clone(p.stored)
	bits[block] = true
	if e := p.lay(bits); e != api.OK {
		return false, e
	}
	was := p.marked[block]
	p.marked[block] = true
	if block < p.super.Mark {
		p.super.Mark = block
	}
	return !was, api.OK
}

func (p *plain) markWords(words []uint64) (int, api.Errno) {
	if p.down {
		return 0, api.ErrPower
	}
	if len(words) != (p.blocks+63)/64 {
		return 0, api.ErrSize
	}
	for b := p.blocks; b < 64*len(words); b++ {
		if has(words, b) {
			return 0, api.ErrRange
		}
	}
	bits := slices.Clone(p.stored)
	for b := range bits {
		bits[b] = bits[b] || has(words, b)
	}
	if e := p.lay(bits); e != api.OK {
		return 0, e
	}
	count := 0
	for b := range bits {
		if !has(words, b) {
			continue
		}
		if !p.marked[b] {
			count++
		}
		p.marked[b] = true
		p.super.Mark = min(p.super.Mark, b)
	}
	return count, api.OK
}

func (p *plain) clean(block int) (bool, api.Errno) {
	if e := p.refuses(block, -1); e != api.OK {
		return false, e
	}
	was := p.marked[block]
	p.marked[block] = false
	return was, api.OK
}

// writeSuper writes it as it is to be, but for its Seq.
func (p *plain) writeSuper(next api.Super) api.Errno {
	next.Seq++
	block, _ := meta.Seal(next)
	other := 1 - p.slot
	if !p.disk.through(p.layout.Super+other, block) {
		return p.power(false)
	}
	p.super, p.slot = next, other
	return api.OK
}

func (p *plain) checkpoint() api.Errno {
	if p.down {
		return api.ErrPower
	}
	if p.super.Seq == 1<<62 {
		return api.ErrFull
	}
	if e := p.lay(p.marked); e != api.OK {
		return e
	}
	next := p.super
	next.Mark = p.least()
	return p.writeSuper(next)
}

func (p *plain) setGens(gens api.Gens, flags uint32) api.Errno {
	if p.down {
		return api.ErrPower
	}
	if flags > 15 {
		return api.ErrArg
	}
	if p.super.Seq == 1<<62 {
		return api.ErrFull
	}
	next := p.super
	next.Gens, next.Flags = gens, flags
	return p.writeSuper(next)
}

func (p *plain) next(from int) int {
	for b, set := range p.marked {
		if set && b >= from {
			return b
		}
	}
	return -1
}

func (p *plain) covered() []int {
	ring := p.named
	if p.records > 0 {
		ring = p.log.Hot()
	}
	var told []int
	for x := range (p.blocks + 3) / 4 {
		last := min(4*x+4, p.blocks)
		if slices.Contains(ring, x) || slices.Contains(p.stored[4*x:last], true) {
			told = append(told, x)
		}
	}
	return told
}

// count is how many bits are set.
func count(bits []bool) int {
	n := 0
	for _, set := range bits {
		if set {
			n++
		}
	}
	return n
}
