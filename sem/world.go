package sem

import (
	"hauberk/api"
	"hauberk/heap"
)

// world is what all calls of a run share: the heap, what the run has come to so far, and what is left of the input.
type world struct {
	*heap.Heap
	api.Result
	values []heap.Value // what expressions came to and is still asked for, the newest last: a pointer's Num is 0, a number's Ptr is to nothing
	now    *frame       // the innermost call
	input  []byte
	fuel   int
}

func newWorld(input []byte, fuel int) *world {
	return &world{Heap: heap.New(), input: input, fuel: fuel}
}

// stop is thrown where the run stops, through all that is under way there.
type stop struct {
	state int
	code  byte
	why   api.Errno
}

// whole does a program to where it stops. Anything but a stop is thrown only in a program that no check answered: of that nothing is told.
func (w *world) whole(p api.Program) {
	defer func() {
		s, ok := recover().(stop)
		if !ok {
			w.Result = api.Result{State: api.Fault}
			return
		}
		w.State, w.Code, w.Why = s.state, s.code, s.why
	}()
	w.call(w.plan(p).routines["main"])
	for {
		w.now.next()
	}
}

// take takes one of the fuel.
func (w *world) take() {
	if w.Steps >= w.fuel {
		panic(stop{state: api.Running})
	}
	w.Steps++
}

func (w *world) push(v heap.Value) { w.values = append(w.values, v) }

func (w *world) pop() heap.Value {
	last := len(w.values) - 1
	v := w.values[last]
	w.values = w.values[:last]
	return v
}

// right stops the run, if the heap told that something isn't.
func right(e api.Errno) {
	if e != api.OK {
		panic(stop{state: api.Stuck, why: e})
	}
}

func (w *world) block(size int, free bool) heap.Ptr {
	p, e := w.Make(size, free)
	right(e)
	return p
}

func (w *world) load(p heap.Ptr, size int) heap.Value {
	v, e := w.Load(p, size)
	right(e)
	return v
}

func (w *world) store(p heap.Ptr, size int, v heap.Value) { right(w.Store(p, size, v)) }
