package tlog

import "replica/api"

// plain: a log as a row of epochs, each a row of writes; the last epoch is the open one.
type plain struct {
	limit, most int
	first       int // the number of the first epoch of the row
	epochs      [][]sent
}

type sent struct {
	id, block int
	acked     bool
}

func newPlain(limit, most int) *plain {
	return &plain{limit: limit, most: most, first: 1, epochs: [][]sent{{}}}
}

// each goes over the writes in their order, until one is enough.
func (p *plain) each(see func(w *sent, epoch int) bool) {
	for i, row := range p.epochs {
		for k := range row {
			if see(&row[k], p.first+i) {
				return
			}
		}
	}
}

func (p *plain) find(id int) (*sent, int) {
	var found *sent
	number := 0
	p.each(func(w *sent, epoch int) bool {
		if w.id == id {
			found, number = w, epoch
		}
		return found != nil
	})
	return found, number
}

func (p *plain) last() *[]sent { return &p.epochs[len(p.epochs)-1] }

func (p *plain) open() int { return p.first + len(p.epochs) - 1 }

func (p *plain) size() int {
	n := 0
	p.each(func(*sent, int) bool { n++; return false })
	return n
}

func (p *plain) closed() int { return len(p.epochs) - 1 }

func (p *plain) add(id, block int) (int, bool, api.Errno) {
	if id <= 0 {
		return 0, false, api.ErrArg
	}
	if block < 0 || block > 4095 {
		return 0, false, api.ErrRange
	}
	if w, _ := p.find(id); w != nil {
		return 0, false, api.ErrTwice
	}
	if p.size() == p.limit || len(*p.last()) == p.most {
		return 0, false, api.ErrFull
	}
	*p.last() = append(*p.last(), sent{id: id, block: block})
	return p.open(), len(*p.last()) == p.most, api.OK
}

func (p *plain) close() (int, int, bool) {
	number, count := p.open(), len(*p.last())
	if count > 0 {
		p.epochs = append(p.epochs, []sent{})
	}
	return number, count, count > 0
}

func (p *plain) ack(id int) (api.Entry, api.Errno) {
	w, epoch := p.find(id)
	if w == nil {
		return api.Entry{}, api.ErrUnknown
	}
	if w.acked {
		return api.Entry{}, api.ErrTwice
	}
	w.acked = true
	return api.Entry{Id: id, Block: w.block, Epoch: epoch}, api.OK
}

func (p *plain) barrier(epoch, count int) ([]api.Entry, api.Errno) {
	if p.closed() == 0 || epoch != p.first || count != len(p.epochs[0]) {
		return nil, api.ErrEpoch
	}
	all := p.all(true)
	p.first++
	p.epochs = p.epochs[1:]
	return all[:count], api.OK
}

func (p *plain) fail() []api.Entry {
	all := p.all(true)
	p.first, p.epochs = 1, [][]sent{{}}
	return all
}

// all tells the writes, the acked ones among them or not.
func (p *plain) all(acked bool) []api.Entry {
	var told []api.Entry
	p.each(func(w *sent, epoch int) bool {
		if acked || !w.acked {
			told = append(told, api.Entry{Id: w.id, Block: w.block, Epoch: epoch})
		}
		return false
	})
	return told
}

func (p *plain) settled(epoch int) bool {
	none := true
	p.each(func(_ *sent, number int) bool {
		none = none && number > epoch
		return false
	})
	return none
}
