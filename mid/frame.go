package mid

import (
	"hauberk/api"
	"hauberk/heap"
	"hauberk/runs"
)

// frame is a call that hasn't ended. It is none of Go's: a unit's may be deeper in one another than these, and a stack of Go's that is full can't be caught.
type frame struct {
	*world
	fn        *api.Fn
	registers []heap.Value // a pointer's Num is 0, a number's Ptr is to nothing
	slots     []heap.Ptr
	at        int    // which instruction comes next
	caller    *frame // nil, of the one that the run began with
	dst       int    // which of its registers is for the answer, if one is
}

// enter begins a call.
func (w *world) enter(fn *api.Fn, dst int) *frame {
	f := &frame{
		world:     w,
		fn:        fn,
		registers: make([]heap.Value, len(fn.Kinds)),
		slots:     make([]heap.Ptr, len(fn.Slots)),
		caller:    w.now,
		dst:       dst,
	}
	for k, size := range fn.Slots {
		f.slots[k] = w.block(size, false)
	}
	w.now = f
	return f
}

// leave ends the call; with the first one the run stops.
func (f *frame) leave(answer heap.Value) {
	for _, p := range f.slots {
		f.End(p.Block)
	}
	if f.caller == nil {
		runs.Exit(answer.Num)
	}
	if f.dst != none {
		f.caller.registers[f.dst] = answer
	}
	f.now = f.caller
}

// next does an instruction.
func (f *frame) next() {
	f.Take()
	i := &f.fn.Code[f.at]
	f.at++
	f.deeds[i.Op](f, i)
}

func (f *frame) num(r int) uint64 { return f.registers[r].Num }

func (f *frame) ptr(r int) heap.Ptr { return f.registers[r].Ptr }

func (f *frame) setNum(r int, n uint64) { f.registers[r] = heap.Value{Num: n} }

func (f *frame) setPtr(r int, p heap.Ptr) { f.registers[r] = heap.Value{Ptr: p} }
