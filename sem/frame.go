package sem

import "hauberk/heap"

// deed is one of the things that a function does, one behind the other.
type deed func(*frame)

// routine is a function as deeds.
type routine struct {
	params int
	sizes  []int // of the blocks that a call makes: its params' first, then its locals'
	deeds  []deed
}

// frame is a call that hasn't ended. It is none of Go's: a program's may be deeper in one another than these, and a stack of Go's that is full can't be caught.
type frame struct {
	*world
	*routine
	at     int        // which of the deeds comes next
	blocks []heap.Ptr // of its params and locals
	caller *frame     // nil, of the one that the run began with
}

func (f *frame) next() {
	do := f.deeds[f.at]
	f.at++
	do(f)
}

// call begins one, with the newest values as its arguments.
func (w *world) call(r *routine) {
	f := &frame{world: w, routine: r, blocks: make([]heap.Ptr, len(r.sizes)), caller: w.now}
	for k, size := range r.sizes {
		f.blocks[k] = w.block(size, false)
	}
	below := len(w.values) - r.params
	for k, v := range w.values[below:] {
		w.store(f.blocks[k], r.sizes[k], v)
	}
	w.values = w.values[:below]
	w.now = f
}

// leave ends the call. Its answer is the newest value, and stays so for its caller; where there is none, the run stops by it.
func (f *frame) leave() {
	for _, p := range f.blocks {
		f.End(p.Block)
	}
	if f.caller == nil {
		f.exit()
	}
	f.now = f.caller
}
