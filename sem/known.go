package sem

import (
	"hauberk/api"
	"hauberk/heap"
	"hauberk/num"
)

// known are the functions that no program has to make. Each puts an answer in the place of its arguments, also where it answers nothing, as all functions do.
func known() map[string]deed {
	return map[string]deed{
		"putchar": (*frame).putchar,
		"getchar": (*frame).getchar,
		"exit":    (*frame).exit,
		"free":    (*frame).free,
	}
}

func (w *world) putchar() {
	w.Out = append(w.Out, byte(w.pop().Num))
	w.push(heap.Value{})
}

func (w *world) getchar() {
	n := num.Of(-1)
	if len(w.input) > 0 {
		n = uint64(w.input[0])
		w.input = w.input[1:]
	}
	w.push(heap.Value{Num: n})
}

func (w *world) exit() {
	panic(stop{state: api.Exit, code: byte(w.pop().Num)})
}

func (w *world) free() {
	right(w.Free(w.pop().Ptr))
	w.push(heap.Value{})
}

func (w *world) malloc() {
	n := num.Signed(w.pop().Num)
	if n < 1 || n > api.MaxMemory {
		panic(stop{state: api.NoRoom})
	}
	w.push(heap.Value{Ptr: w.block(n, true)})
}
