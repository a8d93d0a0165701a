package fat

import (
	"hauberk/api"
	"hauberk/num"
	"hauberk/runs"
)

// deed is what an instruction does in its call.
type deed func(*frame, *api.Ins)

func deeds() map[int]deed {
	return map[int]deed{
		api.MConst:  (*frame).constant,
		api.MMove:   (*frame).move,
		api.MOp:     (*frame).operate,
		api.MNarrow: (*frame).narrow,
		api.MJump:   (*frame).jump,
		api.MIf:     (*frame).branch,
		api.MPut:    (*frame).put,
		api.MGet:    (*frame).get,
		api.MExit:   (*frame).exit,
		api.FTop:    (*frame).top,
		api.FSlot:   (*frame).slot,
		api.FLock:   (*frame).ownLock,
		api.FKey:    (*frame).ownKey,
		api.FCheck:  (*frame).check,
		api.FLoad:   (*frame).load,
		api.FStore:  (*frame).store,
		api.FRead:   (*frame).shadowRead,
		api.FWrite:  (*frame).shadowWrite,
		api.FClear:  (*frame).empty,
		api.FMalloc: (*frame).malloc,
		api.FFree:   (*frame).free,
		api.FCall:   (*frame).call,
		api.FRet:    (*frame).answer,
	}
}

func (f *frame) constant(i *api.Ins) { f.registers[i.Dst] = i.N }

func (f *frame) move(i *api.Ins) { f.registers[i.Dst] = f.registers[i.A] }

func (f *frame) operate(i *api.Ins) {
	f.registers[i.Dst], _ = num.Do(int(i.N), f.registers[i.A], f.registers[i.B])
}

func (f *frame) narrow(i *api.Ins) { f.registers[i.Dst] = low(f.registers[i.A], i.Size) }

// low is the low bytes of a number, signed.
func low(n uint64, bytes int) uint64 {
	n, _ = num.Narrow(n, 8*bytes, true)
	return n
}

func (f *frame) jump(i *api.Ins) { f.at = i.To }

func (f *frame) branch(i *api.Ins) {
	if f.registers[i.A] != 0 {
		f.at = i.To
	}
}

func (f *frame) put(i *api.Ins) { f.Put(f.registers[i.A]) }

func (f *frame) get(i *api.Ins) { f.registers[i.Dst] = f.Get() }

func (f *frame) exit(i *api.Ins) { runs.Exit(f.registers[i.A]) }

func (f *frame) top(i *api.Ins) { f.registers[i.Dst] = f.tops[i.Name] }

func (f *frame) slot(i *api.Ins) { f.registers[i.Dst] = f.slots[i.N] }

func (f *frame) ownLock(i *api.Ins) { f.registers[i.Dst] = f.lock }

func (f *frame) ownKey(i *api.Ins) { f.registers[i.Dst] = f.key }

func (f *frame) check(i *api.Ins) {
	f.Checks++
	value, p := f.pointer(i.Args)
	if !f.live(p) || value < p[base] || value > p[bound] || p[bound]-value < uint64(i.Size) {
		runs.Stop(api.Trap)
	}
}

func (f *frame) load(i *api.Ins) { f.registers[i.Dst] = low(f.read(f.address(i), i.Size), i.Size) }

func (f *frame) store(i *api.Ins) { f.write(f.address(i), i.Size, f.registers[i.B]) }

// address is that of a load or a store; the run stops, where nothing of that size may stand at it.
func (f *frame) address(i *api.Ins) uint64 {
	at, size := f.registers[i.A], uint64(i.Size)
	if at%size != 0 || at < first || at > api.MaxMemory-size {
		runs.Stop(api.Fault)
	}
	return at
}

func (f *frame) shadowRead(i *api.Ins) {
	p := f.shadow[f.registers[i.A]]
	f.set(i.Outs, p[:]...)
}

func (f *frame) shadowWrite(i *api.Ins) { f.shadow[f.registers[i.A]] = f.four(i.Args) }

func (f *frame) empty(i *api.Ins) {
	at, size := f.slots[i.N], uint64(f.fn.Slots[i.N])
	f.zero(at, size)
	f.forget(at, size)
}

func (f *frame) malloc(i *api.Ins) {
	size := f.registers[i.A]
	if size < 1 || size > api.MaxMemory {
		runs.Stop(api.NoRoom)
	}
	at := place(&f.heap, size, api.NoRoom)
	end := at + size
	f.blocks[at] = end
	f.zero(at, size)
	n := f.newLock()
	f.set(i.Outs, at, at, end, f.keys[n], n)
}

func (f *frame) free(i *api.Ins) {
	value, p := f.pointer(i.Args)
	end, ok := f.blocks[p[base]]
	if !f.live(p) || !ok || end != p[bound] || value != p[base] {
		runs.Stop(api.Trap)
	}
	f.release(p[lock])
	delete(f.blocks, p[base])
}

func (f *frame) call(i *api.Ins) { f.enter(f.fns[i.Name], i.Outs, f.numbers(i.Args)...) }

func (f *frame) answer(i *api.Ins) { f.leave(f.numbers(i.Args)...) }
