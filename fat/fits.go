package fat

import (
	"hauberk/api"
	"hauberk/units"
)

// several is told of a list that has as many registers as the rest of the unit asks for.
const several = -1

// uses tells which registers an instruction has, and how many Args and Outs.
type uses struct {
	dst, a, b  bool
	args, outs int
}

// usesOf is false, where the language has no such instruction.
func usesOf(op int) (uses, bool) {
	switch op {
	case api.MConst, api.MGet, api.FTop, api.FSlot, api.FLock, api.FKey:
		return uses{dst: true}, true
	case api.MMove, api.MNarrow, api.FLoad:
		return uses{dst: true, a: true}, true
	case api.MOp:
		return uses{dst: true, a: true, b: true}, true
	case api.MIf, api.MPut, api.MExit:
		return uses{a: true}, true
	case api.FStore:
		return uses{a: true, b: true}, true
	case api.FCheck, api.FFree:
		return uses{args: 5}, true
	case api.FRead:
		return uses{a: true, outs: 4}, true
	case api.FWrite:
		return uses{a: true, args: 4}, true
	case api.FMalloc:
		return uses{a: true, outs: 5}, true
	case api.FCall:
		return uses{args: several, outs: several}, true
	case api.FRet:
		return uses{args: several}, true
	case api.MJump, api.FClear:
		return uses{}, true
	}
	return uses{}, false
}

// fnFits tells whether a function is well formed, whatever else its unit has.
func fnFits(f api.Fn) bool {
	return units.Head(&f, 1) && units.End(&f, api.FRet) &&
		units.All(f.Code, func(i api.Ins) bool { return insFits(&f, &i) })
}

// insFits tells whether an instruction is one that its function may have, where each of its parts that isn't used is 0.
func insFits(f *api.Fn, i *api.Ins) bool {
	may, ok := usesOf(i.Op)
	return ok &&
		registerFits(f, i.Dst, may.dst) && registerFits(f, i.A, may.a) && registerFits(f, i.B, may.b) &&
		listFits(f, i.Args, may.args) && listFits(f, i.Outs, may.outs) && units.Differ(i.Outs) &&
		numberFits(f, i) && sizeFits(i) && units.To(f, i) &&
		(i.Name != "") == isNamed(i.Op)
}

func registerFits(f *api.Fn, r int, used bool) bool {
	if !used {
		return r == 0
	}
	return units.Register(f, r)
}

func listFits(f *api.Fn, l []int, count int) bool {
	return (count == several || count == len(l)) && units.Registers(f, l)
}

func numberFits(f *api.Fn, i *api.Ins) bool {
	switch i.Op {
	case api.MConst:
		return true
	case api.MOp:
		return units.Operation(i.N)
	case api.FSlot, api.FClear:
		return i.N < uint64(len(f.Slots))
	}
	return i.N == 0
}

func sizeFits(i *api.Ins) bool {
	switch i.Op {
	case api.MNarrow, api.FLoad, api.FStore:
		return units.Width(i.Size)
	case api.FCheck:
		return units.Within(i.Size, 1, api.MaxMemory)
	}
	return i.Size == 0
}

func isNamed(op int) bool { return op == api.FTop || op == api.FCall }
