package sem

import (
	"hauberk/api"
	"hauberk/heap"
	"hauberk/num"
	"hauberk/runs"
)

// known are the functions that no program has to make. Each puts an answer in the place of its arguments, also where it answers nothing, as all functions do.
func known() map[string]deed {
	return map[string]deed{
		"putchar": (*frame).putchar,
		"getchar": (*frame).getchar,
		"exit":    (*frame).exit,
		"free":    (*frame).free,
	}
}

func (w *world) putchar() {
	w.Put(w.pop().Num)
	w.push(heap.Value{})
}

func (w *world) getchar() {
	w.push(heap.Value{Num: w.Get()})
}

func (w *world) exit() { runs.Exit(w.pop().Num) }

func (w *world) free() {
	runs.Right(w.Free(w.pop().Ptr))
	w.push(heap.Value{})
}

func (w *world) malloc() {
	n := num.Signed(w.pop().Num)
	if n < 1 || n > api.MaxMemory {
		runs.Stop(api.NoRoom)
	}
	w.push(heap.Value{Ptr: w.block(n, true)})
}
