package resync

import (
	"replica/api"
	"replica/walk"
)

// cleansBetween is with how many cleaned blocks a run stores what it has come to.
const cleansBetween = 16

// counts: what Progress tells of a run, also once it is over.
type counts struct {
	shipped, same, found int
}

// run: what is kept from a Start until the engine is idle again.
type run struct {
	pace     *walk.Pace
	walk     *walk.Walker    // of a target and a verify source
	requests map[int]request // by their Ids: those in flight, or held
	count    int             // how many requests were sent, or taken
	cleaned  int             // how many blocks were cleaned
}

// request: one that has no answer yet, or whose answer is not acknowledged.
type request struct {
	block  int
	hasSum bool
	sum    [32]byte // at a source, while it waits
	waits  bool     // at a source: it has no lock yet
	turn   int      // at a source: its place among all that were taken
}

func (e *Engine) send(p api.Packet) { e.out.Packets = append(e.out.Packets, p) }

// rest makes the engine idle. The counts stay: they are told until the next run.
func (e *Engine) rest() { e.mode, e.run = api.ModeIdle, run{} }

// given is what the call has put out. Where the power failed on its way that is nothing, and the run is over.
func (e *Engine) given(err api.Errno) (api.Out, api.Errno) {
	out := e.out
	e.out = api.Out{}
	if err == api.ErrPower {
		e.rest()
		return api.Out{}, err
	}
	return out, api.OK
}

// settle makes a block durable as it is read.
func (e *Engine) settle(block int) api.Errno {
	if e.store.Waiting(block) == 0 {
		return api.OK
	}
	return e.store.Flush()
}

// countClean stands behind each Clean (which writes nothing: a store that is up does not refuse it). It stores the marks now and then, so that a run that is broken off has not all of its way to go again.
func (e *Engine) countClean() api.Errno {
	e.run.cleaned++
	if e.run.cleaned%cleansBetween != 0 {
		return api.OK
	}
	return e.store.Checkpoint()
}
