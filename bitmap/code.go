package bitmap

import (
	"math/bits"

	"replica/api"
)

// Encode writes n bits as run lengths.
func Encode(n int, words []uint64) ([]byte, api.Errno) {
	m, e := From(n, words)
	if e != api.OK {
		return nil, e
	}
	w := &writer{}
	w.digit(m.lower[0] & 1)
	place := 0
	for first, count := range m.Runs() {
		w.stretch(first - place)
		w.stretch(count)
		place = first + count
	}
	w.stretch(n - place)
	return w.code, api.OK
}

// Decode reads what Encode writes; on ErrCode the place of the first byte that cannot stand there (or the length, if it ends too early).
func Decode(n int, code []byte) ([]uint64, int, api.Errno) {
	m, e := New(n)
	if e != api.OK {
		return nil, 0, e
	}
	r := &reader{code: code}
	if !m.read(r) || !r.atEnd() {
		return nil, r.fault(), api.ErrCode
	}
	return m.Words(), 0, api.OK
}

// read sets the bits of a clear bitmap by its code.
func (m *Bitmap) read(r *reader) bool {
	digit, ok := r.digit()
	set := digit == 1
	for place := 0; ok && place < m.n; {
		var length int
		length, ok = r.stretch(m.n - place)
		if ok && set {
			m.SetRange(place, length)
		}
		place += length
		set = !set
	}
	return ok
}

// writer puts digits into bytes; those that are not written yet are 0, which fills the last byte.
type writer struct {
	code   []byte
	digits int
}

func (w *writer) digit(digit uint64) {
	if w.digits%8 == 0 {
		w.code = append(w.code, 0)
	}
	w.code[w.digits/8] |= byte(digit) << (7 - w.digits%8)
	w.digits++
}

// stretch writes a length; 0 is no stretch (the bitmap begins or ends with a run) and has no digits.
func (w *writer) stretch(length int) {
	if length == 0 {
		return
	}
	below := bits.Len(uint(length)) - 1
	for range below {
		w.digit(0)
	}
	for k := below; k >= 0; k-- {
		w.digit(uint64(length) >> k & 1)
	}
}

// reader takes digits one by one, and gives up at the first that can't stand there: so that digit's byte is the first that can't.
type reader struct {
	code   []byte
	digits int
}

// digit takes a digit; behind the code's end it takes one that is not there, so that fault tells the code's length.
func (r *reader) digit() (int, bool) {
	at := r.digits
	r.digits++
	if at/8 >= len(r.code) {
		return 0, false
	}
	return int(r.code[at/8]>>(7-at%8)) & 1, true
}

// stretch takes a length of at most most. It looks, at each digit, at the least length that may still come of it.
func (r *reader) stretch(most int) (int, bool) {
	least, below := 1, 0
	for {
		digit, ok := r.digit()
		if !ok {
			return 0, false
		}
		if digit == 1 {
			break
		}
		below++
		least <<= 1
		if least > most {
			return 0, false
		}
	}
	for k := below - 1; k >= 0; k-- {
		digit, ok := r.digit()
		least |= digit << k
		if !ok || least > most {
			return 0, false
		}
	}
	return least, true
}

// atEnd takes the digits that fill the last byte, and then one more, that must not be there.
func (r *reader) atEnd() bool {
	for r.digits%8 != 0 {
		if digit, _ := r.digit(); digit == 1 {
			return false
		}
	}
	_, more := r.digit()
	return !more
}

// fault tells the byte of the digit that was taken last.
func (r *reader) fault() int { return (r.digits - 1) / 8 }
