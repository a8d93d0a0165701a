package mid

import (
	"hauberk/api"
	"hauberk/heap"
	"hauberk/num"
)

// world is what all calls of a run share: the heap, what the run has come to so far, what may be named, and what is left of the input.
type world struct {
	*heap.Heap
	api.Result
	tops  map[string]heap.Ptr
	fns   map[string]*api.Fn
	deeds map[int]deed
	now   *frame // the innermost call
	input []byte
	fuel  int
}

func newWorld(input []byte, fuel int) *world {
	return &world{
		Heap:  heap.New(),
		tops:  map[string]heap.Ptr{},
		fns:   map[string]*api.Fn{},
		deeds: deeds(),
		input: input,
		fuel:  fuel,
	}
}

// stop is thrown where the run stops, through all that is under way there.
type stop struct {
	state int
	code  byte
	why   api.Errno
}

// whole runs a unit to where it stops. Nothing but a stop is thrown of one that is well formed.
func (w *world) whole(u api.Unit) {
	defer func() {
		s, ok := recover().(stop)
		if !ok {
			w.Result = api.Result{State: api.Fault}
			return
		}
		w.State, w.Code, w.Why = s.state, s.code, s.why
	}()
	w.begin(u)
	w.enter(w.fns["main"], none)
	for {
		w.now.next()
	}
}

// begin makes the blocks of the variables, which stand to the end of the run, and makes all names known.
func (w *world) begin(u api.Unit) {
	for _, t := range u.Tops {
		w.tops[t.Name] = w.block(t.Size, false)
	}
	for k := range u.Fns {
		w.fns[u.Fns[k].Name] = &u.Fns[k]
	}
}

// take takes one of the fuel.
func (w *world) take() {
	if w.Steps >= w.fuel {
		panic(stop{state: api.Running})
	}
	w.Steps++
}

// right stops the run, if the heap told that something isn't.
func right(e api.Errno) {
	if e != api.OK {
		panic(stop{state: api.Stuck, why: e})
	}
}

// exit stops the run by the low byte of a number.
func exit(n uint64) { panic(stop{state: api.Exit, code: byte(n)}) }

func (w *world) block(size int, free bool) heap.Ptr {
	p, e := w.Make(size, free)
	right(e)
	return p
}

// read is the next byte of the input, or -1 behind its end.
func (w *world) read() uint64 {
	if len(w.input) == 0 {
		return num.Of(-1)
	}
	b := w.input[0]
	w.input = w.input[1:]
	return uint64(b)
}
