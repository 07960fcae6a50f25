package bio

import (
	"iter"
	"slices"
)

// table: rows by their numbers, that remembers in which order they came.
type table[R any] struct {
	rows  map[int]R
	order []int // the rows' numbers
}

func newTable[R any]() table[R] { return table[R]{rows: map[int]R{}} }

func (t *table[R]) size() int { return len(t.order) }

// numbers lists the rows' numbers, in their order.
func (t *table[R]) numbers() []int { return slices.Clone(t.order) }

func (t *table[R]) get(number int) (R, bool) {
	row, in := t.rows[number]
	return row, in
}

// add puts a row, whose number no other has, behind all others.
func (t *table[R]) add(number int, row R) {
	t.rows[number] = row
	t.order = append(t.order, number)
}

// remove takes a row out; it tells at which place the rows now stand that came behind it.
func (t *table[R]) remove(number int) int {
	delete(t.rows, number)
	place := slices.Index(t.order, number)
	t.order = slices.Delete(t.order, place, place+1)
	return place
}

// from goes over the rows from a place on, in their order.
func (t *table[R]) from(place int) iter.Seq[R] {
	return func(yield func(R) bool) {
		for _, number := range t.order[place:] {
			if !yield(t.rows[number]) {
				return
			}
		}
	}
}
