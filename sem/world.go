package sem

import (
	"hauberk/api"
	"hauberk/heap"
	"hauberk/runs"
)

// world is what all calls of a run share, beside the run itself: the heap, and what is under way.
type world struct {
	*heap.Heap
	runs.Run
	values []heap.Value // what expressions came to and is still asked for, the newest last: a pointer's Num is 0, a number's Ptr is to nothing
	now    *frame       // the innermost call
}

func newWorld(input []byte, fuel int) *world {
	return &world{Heap: heap.New(), Run: runs.New(input, fuel)}
}

// program does one, without an end.
func (w *world) program(p api.Program) {
	w.call(w.plan(p).routines["main"])
	for {
		w.now.next()
	}
}

func (w *world) push(v heap.Value) { w.values = append(w.values, v) }

func (w *world) pop() heap.Value {
	last := len(w.values) - 1
	v := w.values[last]
	w.values = w.values[:last]
	return v
}

func (w *world) block(size int, free bool) heap.Ptr {
	p, e := w.Make(size, free)
	runs.Right(e)
	return p
}

func (w *world) load(p heap.Ptr, size int) heap.Value {
	v, e := w.Load(p, size)
	runs.Right(e)
	return v
}

func (w *world) store(p heap.Ptr, size int, v heap.Value) { runs.Right(w.Store(p, size, v)) }
