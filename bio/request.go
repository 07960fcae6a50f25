package bio

import (
	"bytes"
	"slices"

	"replica/api"
)

// request: one that has no reply yet.
type request struct {
	id          int
	sync        bool
	first, last int      // the blocks that it touches; last is below first: none
	ahead       int      // how many earlier open requests it waits for
	left        []*piece // those that are not done, by rising blocks; none of a request that has failed
	flying      int      // its operations that are under way
	err         api.Errno
	data        []byte // of a read: room for its bytes, which its pieces fill
}

// piece: a block of a request, and what is to be done there; or a sync's flush.
type piece struct {
	block int
	busy  bool // an operation of it is under way
	work  work
}

// newRequest gives a request that a device of blocks of that size can do.
func newRequest(r api.Request, size int) *request {
	if r.Kind == api.ReqSync {
		return &request{id: r.Id, sync: true, last: -1, left: []*piece{{work: flushing{}}}}
	}
	n := &request{id: r.Id, first: r.Offset / size, last: (r.Offset + r.Length - 1) / size}
	if r.Kind == api.ReqRead {
		n.data = make([]byte, r.Length)
	}
	for block := n.first; block <= n.last; block++ {
		from := max(r.Offset, block*size)
		to := min(r.Offset+r.Length, (block+1)*size)
		s := span{at: from - block*size, whole: to-from == size, from: from - r.Offset, to: to - r.Offset}
		n.left = append(n.left, &piece{block: block, work: n.workAt(s, r)})
	}
	return n
}

// span: which bytes of a block are those of which place of a range.
type span struct {
	at       int  // where they begin in the block
	whole    bool // they are all of the block
	from, to int  // where they lie in the range
}

// workAt gives what a request does with a span. Each has bytes of its own: what is handed out by and by shares none.
func (n *request) workAt(s span, r api.Request) work {
	switch {
	case r.Kind == api.ReqRead:
		return &reading{at: s.at, into: n.data[s.from:s.to]}
	case r.Kind == api.ReqDiscard && s.whole:
		return zeroing{}
	case r.Kind == api.ReqDiscard:
		return &writingPart{at: s.at, part: make([]byte, s.to-s.from)}
	case s.whole:
		return &writing{block: bytes.Clone(r.Data[s.from:s.to])}
	default:
		return &writingPart{at: s.at, part: bytes.Clone(r.Data[s.from:s.to])}
	}
}

// waitsFor tells whether the request has to wait for that earlier one.
func (n *request) waitsFor(earlier *request) bool {
	return n.sync || n.first <= earlier.last && earlier.first <= n.last
}

// next gives the piece that hands out the request's next operation; nil: there is none now.
func (n *request) next() *piece {
	if n.ahead > 0 {
		return nil
	}
	place := slices.IndexFunc(n.left, func(p *piece) bool { return !p.busy })
	if place < 0 {
		return nil
	}
	return n.left[place]
}

// take takes the answer to an operation of that piece.
func (n *request) take(p *piece, a api.Answer) {
	n.flying--
	p.busy = false
	switch {
	case n.err != api.OK:
	case a.Err != api.OK:
		n.err, n.left, n.data = a.Err, nil, nil
	case p.work.take(a.Data):
		place := slices.Index(n.left, p)
		n.left = slices.Delete(n.left, place, place+1)
	}
}

// isOver tells whether nothing is left to be done, and nothing under way.
func (n *request) isOver() bool { return len(n.left) == 0 && n.flying == 0 }
