package bio

import (
	"bytes"

	"replica/api"
)

// work: what is done with a block, one operation behind the other.
type work interface {
	// next gives the next operation: its kind and its data, which are the caller's from then on.
	next() (kind int, data []byte)
	// take takes what it was answered without an error; true: it was the last one.
	take(data []byte) bool
}

// reading: of bytes of a block.
type reading struct {
	at   int
	into []byte // where the bytes go that lie there
}

func (w *reading) next() (int, []byte) { return api.OpRead, nil }

func (w *reading) take(data []byte) bool {
	copy(w.into, data[w.at:])
	return true
}

// writing: of a whole block.
type writing struct {
	block []byte
}

func (w *writing) next() (int, []byte) {
	block := w.block
	w.block = nil
	return api.OpWrite, block
}

func (w *writing) take([]byte) bool { return true }

// writingPart: of some bytes of a block, which is read ahead of that.
type writingPart struct {
	writing // of the block as it is to be, once it was read
	at      int
	part    []byte // what comes there
	wasRead bool
}

func (w *writingPart) next() (int, []byte) {
	if !w.wasRead {
		return api.OpRead, nil
	}
	return w.writing.next()
}

func (w *writingPart) take(data []byte) bool {
	if w.wasRead {
		return true
	}
	w.wasRead = true
	w.block = bytes.Clone(data)
	copy(w.block[w.at:], w.part)
	w.part = nil
	return false
}

// zeroing: of a whole block.
type zeroing struct{}

func (zeroing) next() (int, []byte) { return api.OpZero, nil }

func (zeroing) take([]byte) bool { return true }

// flushing: of the whole device.
type flushing struct{}

func (flushing) next() (int, []byte) { return api.OpFlush, nil }

func (flushing) take([]byte) bool { return true }
