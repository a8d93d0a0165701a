package mid

import (
	"hauberk/api"
	"hauberk/units"
)

// The kinds of registers, as bits, so that more than one may be allowed.
const (
	number  = 1
	pointer = 2
	either  = number | pointer
	absent  = 4 // or there is none
)

// none is told where there is no register, but might be one.
const none = -1

// uses tells which kinds the registers of an instruction may be of; 0, where it has none.
type uses struct{ dst, a, b int }

var registers = [...]uses{
	api.MConst:  {dst: number},
	api.MMove:   {dst: either, a: either},
	api.MOp:     {dst: number, a: number, b: number},
	api.MNarrow: {dst: number, a: number},
	api.MNull:   {dst: pointer},
	api.MTop:    {dst: pointer},
	api.MLocal:  {dst: pointer},
	api.MAdd:    {dst: pointer, a: pointer, b: number},
	api.MPart:   {dst: pointer, a: pointer},
	api.MIs:     {dst: number, a: pointer},
	api.MLoad:   {dst: either, a: pointer},
	api.MStore:  {a: pointer, b: either},
	api.MClear:  {},
	api.MMalloc: {dst: pointer, a: number},
	api.MFree:   {a: pointer},
	api.MCall:   {dst: either | absent},
	api.MRet:    {a: either | absent},
	api.MJump:   {},
	api.MIf:     {a: number},
	api.MPut:    {a: number},
	api.MGet:    {dst: number},
	api.MExit:   {a: number},
}

// fnFits tells whether a function is well formed, whatever else its unit has.
func fnFits(f api.Fn) bool {
	return units.Head(&f, pointer) && units.End(&f, api.MRet) &&
		units.All(f.Code, func(i api.Ins) bool { return insFits(&f, &i) })
}

// insFits tells whether an instruction is one that its function may have, where each of its parts that isn't used is 0.
func insFits(f *api.Fn, i *api.Ins) bool {
	return units.Within(i.Op, api.MConst, api.MExit) &&
		registersFit(f, i) && kindsFit(f, i) && numberFits(f, i) && sizeFits(i) && listsFit(f, i) && units.To(f, i) &&
		(i.Name != "") == isNamed(i.Op)
}

func registersFit(f *api.Fn, i *api.Ins) bool {
	may := registers[i.Op]
	return registerFits(f, i.Dst, may.dst) && registerFits(f, i.A, may.a) && registerFits(f, i.B, may.b)
}

func registerFits(f *api.Fn, r, kinds int) bool {
	switch {
	case kinds == 0:
		return r == 0
	case r == none:
		return kinds&absent != 0
	}
	return units.Register(f, r) && f.Kinds[r]&kinds != 0
}

// kindsFit tells whether a register that may be of either kind is of the one that the rest of the instruction asks for.
func kindsFit(f *api.Fn, i *api.Ins) bool {
	switch i.Op {
	case api.MMove:
		return f.Kinds[i.Dst] == f.Kinds[i.A]
	case api.MLoad:
		return f.Kinds[i.Dst] == number || i.Size == 8
	case api.MStore:
		return f.Kinds[i.B] == number || i.Size == 8
	}
	return true
}

func numberFits(f *api.Fn, i *api.Ins) bool {
	switch i.Op {
	case api.MConst:
		return true
	case api.MOp:
		return units.Operation(i.N)
	case api.MLocal, api.MClear:
		return i.N < uint64(len(f.Slots))
	case api.MPart:
		return i.N < api.MaxMemory
	}
	return i.N == 0
}

func sizeFits(i *api.Ins) bool {
	switch i.Op {
	case api.MNarrow, api.MLoad, api.MStore:
		return units.Width(i.Size)
	case api.MPart:
		return units.Within(i.Size, 1, api.MaxMemory)
	}
	return i.Size == 0
}

func listsFit(f *api.Fn, i *api.Ins) bool {
	return (i.Op == api.MCall || len(i.Args) == 0) && len(i.Outs) == 0 && units.Registers(f, i.Args)
}

func isNamed(op int) bool { return op == api.MTop || op == api.MCall }
