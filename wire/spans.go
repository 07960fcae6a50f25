package wire

// span is the numbers from low to high, both among them.
type span struct{ low, high uint64 }

// spans are the numbers that may stand in a place.
type spans []span

// meet tells whether one of them lies from low to high.
func (s spans) meet(low, high uint64) bool {
	for _, one := range s {
		if one.low <= high && low <= one.high {
			return true
		}
	}
	return false
}

func (s spans) have(value uint64) bool { return s.meet(value, value) }
