package locks

import (
	"slices"

	"replica/api"
)

// plain: a table as one row for each extent, holders and waiters in the order in which they came: nobody is overtaken, so whoever holds stands ahead of whoever waits.
type plain struct {
	rows    [][]asked
	waiters int
}

type asked struct{ owner, mode int }

func newPlain(extents, waiters int) *plain {
	return &plain{rows: make([][]asked, extents), waiters: waiters}
}

func (p *plain) exists(extent int) bool { return extent >= 0 && extent < len(p.rows) }

// held is how many of a row hold: the first one, and if it is Shared all Shared ones that follow it without a gap.
func held(row []asked) int {
	if len(row) == 0 {
		return 0
	}
	if row[0].mode == api.Exclusive {
		return 1
	}
	if gap := slices.IndexFunc(row, func(a asked) bool { return a.mode != api.Shared }); gap >= 0 {
		return gap
	}
	return len(row)
}

func names(row []asked) []int {
	out := []int{}
	for _, a := range row {
		out = append(out, a.owner)
	}
	return out
}

func (p *plain) acquire(extent, mode, owner int) (bool, api.Errno) {
	if mode != 1 && mode != 2 {
		return false, api.ErrArg
	}
	if !p.exists(extent) {
		return false, api.ErrRange
	}
	if slices.Contains(names(p.rows[extent]), owner) {
		return false, api.ErrHeld
	}
	longer := append(slices.Clone(p.rows[extent]), asked{owner, mode})
	if held(longer) == len(longer) {
		p.rows[extent] = longer
		return true, api.OK
	}
	if p.waiting() == p.waiters {
		return false, api.ErrFull
	}
	p.rows[extent] = longer
	return false, api.OK
}

func (p *plain) release(extent, owner int) ([]int, api.Errno) {
	if !p.exists(extent) {
		return nil, api.ErrRange
	}
	row := p.rows[extent]
	at := slices.Index(names(row), owner)
	if at < 0 {
		return nil, api.ErrNotHeld
	}
	had := names(row[:held(row)])
	p.rows[extent] = slices.Delete(slices.Clone(row), at, at+1)
	now := p.rows[extent]
	came := slices.DeleteFunc(names(now[:held(now)]), func(o int) bool { return slices.Contains(had, o) })
	return came, api.OK
}

func (p *plain) drop(owner int) []int {
	var out []int
	for extent := range p.rows {
		came, _ := p.release(extent, owner)
		out = append(out, came...)
	}
	return out
}

func (p *plain) holds(extent, owner int) bool {
	return p.exists(extent) && slices.Contains(names(p.rows[extent][:held(p.rows[extent])]), owner)
}

func (p *plain) holders(extent int) ([]int, int, api.Errno) {
	if !p.exists(extent) {
		return nil, 0, api.ErrRange
	}
	row := p.rows[extent]
	if len(row) == 0 {
		return nil, 0, api.OK
	}
	return names(row[:held(row)]), row[0].mode, api.OK
}

func (p *plain) waits(extent int) ([]int, api.Errno) {
	if !p.exists(extent) {
		return nil, api.ErrRange
	}
	return names(p.rows[extent][held(p.rows[extent]):]), api.OK
}

func (p *plain) waiting() int {
	n := 0
	for _, row := range p.rows {
		n += len(row) - held(row)
	}
	return n
}
