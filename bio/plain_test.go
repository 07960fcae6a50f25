package bio

import (
	"bytes"

	"replica/api"
)

// plain: a queue by the chapter's words, that looks everything up anew.
type plain struct {
	blocks, size, depth int
	open                []*asking // in the order in which they came
	under               []*doing  // the operations under way
	numbers             int
}

// asking: an open request.
type asking struct {
	api.Request
	parts  []*share // by rising blocks
	failed bool
	err    api.Errno
}

// share: a piece, or a sync's operation.
type share struct {
	block   int
	steps   []int // the kinds of its operations
	answers int   // how many of them were answered OK
	waits   bool  // for an answer
	had     []byte
}

type doing struct {
	id, kind int
	of       *asking
	at       *share
}

func newPlain(blocks, size, depth int) *plain {
	return &plain{blocks: blocks, size: size, depth: depth}
}

func (p *plain) request(r api.Request) ([]api.Op, []api.Reply, api.Errno) {
	sync := r.Kind == api.ReqSync
	bad := func(e api.Errno) ([]api.Op, []api.Reply, api.Errno) { return nil, nil, e }
	switch {
	case r.Id <= 0, r.Kind < 1, r.Kind > 4, !sync && r.Length <= 0, sync && r.Offset != 0, sync && r.Length != 0:
		return bad(api.ErrArg)
	case !sync && (r.Offset < 0 || r.Length > p.blocks*p.size || r.Offset > p.blocks*p.size-r.Length):
		return bad(api.ErrRange)
	case r.Kind == api.ReqWrite && len(r.Data) != r.Length, r.Kind != api.ReqWrite && len(r.Data) > 0:
		return bad(api.ErrSize)
	case r.Length > 65536:
		return bad(api.ErrLong)
	}
	for _, o := range p.open {
		if o.Id == r.Id {
			return bad(api.ErrTwice)
		}
	}
	if len(p.open) == 256 {
		return bad(api.ErrFull)
	}
	r.Data = bytes.Clone(r.Data)
	p.open = append(p.open, &asking{Request: r, parts: p.shares(r)})
	return p.goOn(), nil, api.OK
}

func (p *plain) shares(r api.Request) []*share {
	if r.Kind == api.ReqSync {
		return []*share{{steps: []int{api.OpFlush}}}
	}
	var list []*share
	for block := range p.blocks {
		if p.touches(r, block) {
			list = append(list, &share{block: block, steps: p.stepsOf(r, block)})
		}
	}
	return list
}

func (p *plain) touches(r api.Request, block int) bool {
	return r.Kind != api.ReqSync && r.Offset < (block+1)*p.size && block*p.size < r.Offset+r.Length
}

func (p *plain) stepsOf(r api.Request, block int) []int {
	whole := r.Offset <= block*p.size && (block+1)*p.size <= r.Offset+r.Length
	switch {
	case r.Kind == api.ReqRead:
		return []int{api.OpRead}
	case !whole:
		return []int{api.OpRead, api.OpWrite}
	case r.Kind == api.ReqDiscard:
		return []int{api.OpZero}
	}
	return []int{api.OpWrite}
}

func (p *plain) goOn() []api.Op {
	var out []api.Op
	for len(p.under) < p.depth {
		o, s := p.earliest()
		if o == nil {
			break
		}
		p.numbers++
		kind := s.steps[s.answers]
		op := api.Op{Id: p.numbers, Kind: kind, Block: s.block}
		if kind == api.OpWrite {
			op.Data = p.written(o, s)
		}
		s.waits = true
		p.under = append(p.under, &doing{id: p.numbers, kind: kind, of: o, at: s})
		out = append(out, op)
	}
	return out
}

// earliest tells who hands an operation out next, and of which piece.
func (p *plain) earliest() (*asking, *share) {
	for i, o := range p.open {
		if o.failed || !p.up(i) {
			continue
		}
		for _, s := range o.parts {
			if !s.waits && s.answers < len(s.steps) {
				return o, s
			}
		}
	}
	return nil, nil
}

func (p *plain) up(i int) bool {
	if p.open[i].Kind == api.ReqSync {
		return i == 0
	}
	for _, s := range p.open[i].parts {
		for _, earlier := range p.open[:i] {
			if p.touches(earlier.Request, s.block) {
				return false
			}
		}
	}
	return true
}

// written tells the bytes that a piece's block is to have.
func (p *plain) written(o *asking, s *share) []byte {
	block := make([]byte, p.size)
	copy(block, s.had)
	for i := range block {
		place := s.block*p.size + i - o.Offset
		if place >= 0 && place < o.Length {
			block[i] = 0
			if o.Kind == api.ReqWrite {
				block[i] = o.Data[place]
			}
		}
	}
	return block
}

func (p *plain) answered(a api.Answer) ([]api.Op, []api.Reply, api.Errno) {
	var d *doing
	var rest []*doing
	for _, u := range p.under {
		if u.id == a.Id {
			d = u
		} else {
			rest = append(rest, u)
		}
	}
	if d == nil {
		return nil, nil, api.ErrState
	}
	if d.kind == api.OpRead && a.Err == 0 && len(a.Data) != p.size {
		return nil, nil, api.ErrSize
	}
	p.under = rest
	d.at.waits = false
	if a.Err != 0 && !d.of.failed {
		d.of.failed, d.of.err = true, a.Err
	}
	if a.Err == 0 {
		d.at.answers++
		if d.kind == api.OpRead {
			d.at.had = bytes.Clone(a.Data)
		}
	}
	list := p.replyTo(d.of)
	return p.goOn(), list, api.OK
}

func (p *plain) replyTo(o *asking) []api.Reply {
	for _, s := range o.parts {
		if s.waits || !o.failed && s.answers < len(s.steps) {
			return nil
		}
	}
	for i, other := range p.open {
		if other == o {
			p.open = append(p.open[:i:i], p.open[i+1:]...)
			break
		}
	}
	r := api.Reply{Id: o.Id, Err: o.err}
	if !o.failed && o.Kind == api.ReqRead {
		for i := range o.Length {
			r.Data = append(r.Data, p.byteAt(o, o.Offset+i))
		}
	}
	return []api.Reply{r}
}

// byteAt tells what was read of a byte of the device.
func (p *plain) byteAt(o *asking, place int) byte {
	for _, s := range o.parts {
		if s.block == place/p.size {
			return s.had[place%p.size]
		}
	}
	return 0
}

func (p *plain) lost() []int {
	var ids []int
	for _, o := range p.open {
		ids = append(ids, o.Id)
	}
	p.open, p.under = nil, nil
	return ids
}
