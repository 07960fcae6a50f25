package locks

import "replica/api"

// request: what one call asks and is answered. The work of each call is a method of it without arguments, so that all of them are guarded in one place.
type request struct {
	table  *Table
	extent int
	claim  claim

	granted bool
	told    []int
	number  int
}

func (r *request) acquire() api.Errno {
	t := r.table
	if r.claim.mode != api.Shared && r.claim.mode != api.Exclusive {
		return api.ErrArg
	}
	if !r.exists() {
		return api.ErrRange
	}
	l := &t.locks[r.extent]
	switch {
	case l.holds(r.claim.owner) || l.waits(r.claim.owner):
		return api.ErrHeld
	case len(l.row) == 0 && l.goes(r.claim.mode):
		l.holders = append(l.holders, r.claim)
		r.granted = true
	case t.waiting >= t.waiters:
		return api.ErrFull
	default:
		l.row = append(l.row, r.claim)
		t.waiting++
	}
	return api.OK
}

// release puts the owners that come in behind those that are told already, so that a drop can go on with it.
func (r *request) release() api.Errno {
	if !r.exists() {
		return api.ErrRange
	}
	l := &r.table.locks[r.extent]
	waited := len(l.row)
	if !l.leave(r.claim.owner) {
		return api.ErrNotHeld
	}
	r.told = append(r.told, l.letIn()...)
	r.table.waiting -= waited - len(l.row)
	return api.OK
}

func (r *request) drop() api.Errno {
	for extent := range r.table.locks {
		r.extent = extent
		r.release()
	}
	return api.OK
}

func (r *request) seeHold() api.Errno {
	if !r.exists() {
		return api.ErrRange
	}
	r.granted = r.table.locks[r.extent].holds(r.claim.owner)
	return api.OK
}

func (r *request) seeHolders() api.Errno {
	if !r.exists() {
		return api.ErrRange
	}
	l := &r.table.locks[r.extent]
	r.told, r.number = owners(l.holders), l.mode()
	return api.OK
}

func (r *request) seeWaiters() api.Errno {
	if !r.exists() {
		return api.ErrRange
	}
	r.told = owners(r.table.locks[r.extent].row)
	return api.OK
}

func (r *request) seeWaiting() api.Errno {
	r.number = r.table.waiting
	return api.OK
}

// exists tells whether the table has the extent.
func (r *request) exists() bool {
	return 0 <= r.extent && r.extent < len(r.table.locks)
}
