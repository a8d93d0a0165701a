package mid

import (
	"hauberk/api"
	"hauberk/heap"
	"hauberk/runs"
)

// world is what all calls of a run share, beside the run itself: the heap, and what may be named.
type world struct {
	*heap.Heap
	runs.Run
	tops  map[string]heap.Ptr
	fns   map[string]*api.Fn
	deeds map[int]deed
	now   *frame // the innermost call
}

func newWorld(input []byte, fuel int) *world {
	return &world{
		Heap:  heap.New(),
		Run:   runs.New(input, fuel),
		tops:  map[string]heap.Ptr{},
		fns:   map[string]*api.Fn{},
		deeds: deeds(),
	}
}

// unit does one, without an end.
func (w *world) unit(u api.Unit) {
	w.begin(u)
	w.enter(w.fns["main"], none)
	for {
		w.now.next()
	}
}

// begin makes the blocks of the variables, which stand to the end of the run, and makes all names known.
func (w *world) begin(u api.Unit) {
	for _, t := range u.Tops {
		w.tops[t.Name] = w.block(t.Size, false)
	}
	for k := range u.Fns {
		w.fns[u.Fns[k].Name] = &u.Fns[k]
	}
}

func (w *world) block(size int, free bool) heap.Ptr {
	p, e := w.Make(size, free)
	runs.Right(e)
	return p
}
