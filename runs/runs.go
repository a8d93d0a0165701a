// Package runs is for layers 9, 10 and 12: what a run has come to, what is left to it, and how it stops, whatever it is of.
package runs

import (
	"hauberk/api"
	"hauberk/num"
)

// Run is one that is under way.
type Run struct {
	api.Result
	input []byte
	fuel  int
}

// New: a run that has done nothing yet.
func New(input []byte, fuel int) Run { return Run{input: input, fuel: fuel} }

// stop is thrown where a run stops, through all that is under way there.
type stop struct {
	state int
	code  byte
	why   api.Errno
}

// Whole does something to where the run stops. Anything but a stop is thrown only where what is run isn't right: of that nothing is told.
func (r *Run) Whole(do func()) {
	defer func() {
		s, ok := recover().(stop)
		if !ok {
			r.Result = api.Result{State: api.Fault}
			return
		}
		r.State, r.Code, r.Why = s.state, s.code, s.why
	}()
	do()
}

// Take takes one of the fuel.
func (r *Run) Take() {
	if r.Steps >= r.fuel {
		Stop(api.Running)
	}
	r.Steps++
}

// Put puts out the low byte of a number.
func (r *Run) Put(n uint64) { r.Out = append(r.Out, byte(n)) }

// Get is the next byte of the input, or -1 behind its end.
func (r *Run) Get() uint64 {
	if len(r.input) == 0 {
		return num.Of(-1)
	}
	b := r.input[0]
	r.input = r.input[1:]
	return uint64(b)
}

// Stop stops the run in one of the ways that have neither a code nor an error.
func Stop(state int) { panic(stop{state: state}) }

// Exit stops the run by the low byte of a number.
func Exit(n uint64) { panic(stop{state: api.Exit, code: byte(n)}) }

// Right stops the run, if something isn't.
func Right(e api.Errno) {
	if e != api.OK {
		panic(stop{state: api.Stuck, why: e})
	}
}
