package fat

import (
	"hauberk/api"
	"hauberk/runs"
)

// frame is a call that hasn't ended. It is none of Go's: a unit's may be deeper in one another than these, and a stack of Go's that is full can't be caught.
type frame struct {
	*world
	fn        *api.Fn
	registers []uint64
	slots     []uint64 // where they begin
	below     uint64   // where those of its caller end
	lock, key uint64   // 0, of a call without slots
	at        int      // which instruction comes next
	caller    *frame   // nil, of the one that the run began with
	outs      []int    // its registers for what is answered
}

// enter begins a call.
func (w *world) enter(fn *api.Fn, outs []int, args ...uint64) {
	f := &frame{
		world:     w,
		fn:        fn,
		registers: make([]uint64, len(fn.Kinds)),
		slots:     make([]uint64, len(fn.Slots)),
		below:     w.stack.next,
		caller:    w.now,
		outs:      outs,
	}
	f.set(fn.Params, args...)
	for k, size := range fn.Slots {
		f.slots[k] = place(&w.stack, uint64(size), api.NoRoom)
	}
	if len(fn.Slots) > 0 {
		f.lock = w.newLock()
		f.key = w.keys[f.lock]
	}
	w.now = f
}

// leave ends the call; with the first one the run stops, by the first of what is answered, if anything is.
func (f *frame) leave(answers ...uint64) {
	f.stack.next = f.below
	if len(f.slots) > 0 {
		f.release(f.lock)
	}
	if f.caller == nil {
		runs.Exit(append(answers, 0)[0])
	}
	f.caller.set(f.outs, answers...)
	f.now = f.caller
}

// next does an instruction.
func (f *frame) next() {
	f.Take()
	i := &f.fn.Code[f.at]
	f.at++
	f.deeds[i.Op](f, i)
}

// set makes numbers those of registers.
func (f *frame) set(registers []int, numbers ...uint64) {
	for k, r := range registers {
		f.registers[r] = numbers[k]
	}
}

// numbers are those of registers.
func (f *frame) numbers(registers []int) []uint64 {
	l := make([]uint64, len(registers))
	for k, r := range registers {
		l[k] = f.registers[r]
	}
	return l
}

// pointer is the value of five registers, and the four others.
func (f *frame) pointer(registers []int) (uint64, four) {
	return f.registers[registers[0]], f.four(registers[1:])
}

func (f *frame) four(registers []int) four {
	var p four
	for k, r := range registers {
		p[k] = f.registers[r]
	}
	return p
}
