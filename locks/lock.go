package locks

import (
	"slices"

	"replica/api"
)

// claim: an owner and the mode in which it holds an extent or waits for it.
type claim struct {
	owner, mode int
}

// lock: who has one extent, and who waits for it.
type lock struct {
	holders []claim // in the order in which it was granted; all of one mode
	row     []claim // in the order in which they came
}

// mode is that of the holders; 0: there are none.
func (l *lock) mode() int {
	if len(l.holders) == 0 {
		return 0
	}
	return l.holders[0].mode
}

// goes tells whether a mode goes with the holders.
func (l *lock) goes(mode int) bool {
	return len(l.holders) == 0 || mode == api.Shared && l.mode() == api.Shared
}

func (l *lock) holds(owner int) bool { return place(l.holders, owner) >= 0 }

func (l *lock) waits(owner int) bool { return place(l.row, owner) >= 0 }

// leave takes the owner's place away; false: it has none.
func (l *lock) leave(owner int) bool {
	if at := place(l.holders, owner); at >= 0 {
		l.holders = slices.Delete(l.holders, at, at+1)
		return true
	}
	if at := place(l.row, owner); at >= 0 {
		l.row = slices.Delete(l.row, at, at+1)
		return true
	}
	return false
}

// letIn grants the extent to the first of the row as long as it goes with the holders, and tells to whom.
func (l *lock) letIn() []int {
	in := 0
	for in < len(l.row) && l.goes(l.row[in].mode) {
		l.holders = append(l.holders, l.row[in])
		in++
	}
	granted := owners(l.row[:in])
	l.row = slices.Delete(l.row, 0, in)
	return granted
}

// place is where the owner stands in a list; -1: nowhere.
func place(list []claim, owner int) int {
	return slices.IndexFunc(list, func(c claim) bool { return c.owner == owner })
}

func owners(list []claim) []int {
	var told []int
	for _, c := range list {
		told = append(told, c.owner)
	}
	return told
}
