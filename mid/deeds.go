package mid

import (
	"hauberk/api"
	"hauberk/heap"
	"hauberk/num"
	"hauberk/runs"
	"hauberk/units"
)

// deed is what an instruction does in its call.
type deed func(*frame, *api.Ins)

func deeds() map[int]deed {
	return map[int]deed{
		api.MConst:  (*frame).constant,
		api.MMove:   (*frame).move,
		api.MOp:     (*frame).operate,
		api.MNarrow: (*frame).narrow,
		api.MNull:   (*frame).null,
		api.MTop:    (*frame).top,
		api.MLocal:  (*frame).local,
		api.MAdd:    (*frame).add,
		api.MPart:   (*frame).part,
		api.MIs:     (*frame).is,
		api.MLoad:   (*frame).load,
		api.MStore:  (*frame).store,
		api.MClear:  (*frame).empty,
		api.MMalloc: (*frame).malloc,
		api.MFree:   (*frame).free,
		api.MCall:   (*frame).call,
		api.MRet:    (*frame).answer,
		api.MJump:   (*frame).jump,
		api.MIf:     (*frame).branch,
		api.MPut:    (*frame).put,
		api.MGet:    (*frame).get,
		api.MExit:   (*frame).exit,
	}
}

func (f *frame) constant(i *api.Ins) { f.setNum(i.Dst, i.N) }

func (f *frame) move(i *api.Ins) { f.registers[i.Dst] = f.registers[i.A] }

func (f *frame) operate(i *api.Ins) {
	n, _ := num.Do(int(i.N), f.num(i.A), f.num(i.B))
	f.setNum(i.Dst, n)
}

func (f *frame) narrow(i *api.Ins) { f.setNum(i.Dst, low(f.num(i.A), i.Size)) }

// low is the low bytes of a number, signed.
func low(n uint64, bytes int) uint64 {
	n, _ = num.Narrow(n, 8*bytes, true)
	return n
}

func (f *frame) null(i *api.Ins) { f.setPtr(i.Dst, heap.Ptr{}) }

func (f *frame) top(i *api.Ins) { f.setPtr(i.Dst, f.tops[i.Name]) }

func (f *frame) local(i *api.Ins) { f.setPtr(i.Dst, f.slots[i.N]) }

func (f *frame) add(i *api.Ins) { f.setPtr(i.Dst, heap.Move(f.ptr(i.A), num.Signed(f.num(i.B)))) }

func (f *frame) part(i *api.Ins) { f.setPtr(i.Dst, heap.Part(f.ptr(i.A), int(i.N), i.Size)) }

func (f *frame) is(i *api.Ins) {
	n := uint64(0)
	if f.ptr(i.A).Block == 0 {
		n = 1
	}
	f.setNum(i.Dst, n)
}

// load takes of what stands there what the register is for.
func (f *frame) load(i *api.Ins) {
	v, e := f.Load(f.ptr(i.A), i.Size)
	runs.Right(e)
	if f.fn.Kinds[i.Dst] == pointer {
		f.setPtr(i.Dst, v.Ptr)
		return
	}
	f.setNum(i.Dst, low(v.Num, i.Size))
}

func (f *frame) store(i *api.Ins) {
	v := f.registers[i.B]
	v.Num = low(v.Num, i.Size)
	runs.Right(f.Store(f.ptr(i.A), i.Size, v))
}

func (f *frame) empty(i *api.Ins) { f.Clear(f.slots[i.N].Block) }

func (f *frame) malloc(i *api.Ins) {
	size := num.Signed(f.num(i.A))
	if !units.Within(size, 1, api.MaxMemory) {
		runs.Stop(api.NoRoom)
	}
	f.setPtr(i.Dst, f.block(size, true))
}

func (f *frame) free(i *api.Ins) { runs.Right(f.Free(f.ptr(i.A))) }

func (f *frame) call(i *api.Ins) {
	g := f.enter(f.fns[i.Name], i.Dst)
	for k, r := range i.Args {
		g.registers[g.fn.Params[k]] = f.registers[r]
	}
}

func (f *frame) answer(i *api.Ins) {
	v := heap.Value{}
	if i.A != none {
		v = f.registers[i.A]
	}
	f.leave(v)
}

func (f *frame) jump(i *api.Ins) { f.at = i.To }

func (f *frame) branch(i *api.Ins) {
	if f.num(i.A) != 0 {
		f.at = i.To
	}
}

func (f *frame) put(i *api.Ins) { f.Put(f.num(i.A)) }

func (f *frame) get(i *api.Ins) { f.setNum(i.Dst, f.Get()) }

func (f *frame) exit(i *api.Ins) { runs.Exit(f.num(i.A)) }
