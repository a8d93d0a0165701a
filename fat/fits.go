package fat

import (
	"hauberk/api"
	"hauberk/ins"
	"hauberk/units"
)

// fnFits tells whether a function is well formed, whatever else its unit has.
func fnFits(f api.Fn) bool {
	return units.Head(&f, 1) && units.End(&f, api.FRet) &&
		units.All(f.Code, func(i api.Ins) bool { return insFits(&f, &i) })
}

// insFits tells whether an instruction is one that its function may have, where each of its parts that isn't used is 0.
func insFits(f *api.Fn, i *api.Ins) bool {
	may, ok := ins.PartsOf(i.Op)
	return ok &&
		registerFits(f, i.Dst, may.Dst) && registerFits(f, i.A, may.A) && registerFits(f, i.B, may.B) &&
		listFits(f, i.Args, may.Args) && listFits(f, i.Outs, may.Outs) && units.Differ(i.Outs) &&
		numberFits(f, i) && sizeFits(i) && units.To(f, i) &&
		(i.Name != "") == isNamed(i.Op)
}

func registerFits(f *api.Fn, r int, used bool) bool {
	if !used {
		return r == 0
	}
	return units.Register(f, r)
}

func listFits(f *api.Fn, l []int, count int) bool {
	return (count == ins.Several || count == len(l)) && units.Registers(f, l)
}

func numberFits(f *api.Fn, i *api.Ins) bool {
	switch i.Op {
	case api.MConst:
		return true
	case api.MOp:
		return units.Operation(i.N)
	case api.FSlot, api.FClear:
		return i.N < uint64(len(f.Slots))
	}
	return i.N == 0
}

func sizeFits(i *api.Ins) bool {
	switch i.Op {
	case api.MNarrow, api.FLoad, api.FStore:
		return units.Width(i.Size)
	case api.FCheck:
		return units.Within(i.Size, 1, api.MaxMemory)
	}
	return i.Size == 0
}

func isNamed(op int) bool { return op == api.FTop || op == api.FCall }
