package ins

import "hauberk/api"

// Several is told of a list that has as many registers as the rest of the unit asks for.
const Several = -1

// Parts tells which registers an instruction has, and how many Args and Outs.
type Parts struct {
	Dst, A, B  bool
	Args, Outs int
}

// PartsOf is false, where the language has no such instruction.
func PartsOf(op int) (Parts, bool) {
	switch op {
	case api.MConst, api.MGet, api.FTop, api.FSlot, api.FLock, api.FKey:
		return Parts{Dst: true}, true
	case api.MMove, api.MNarrow, api.FLoad:
		return Parts{Dst: true, A: true}, true
	case api.MOp:
		return Parts{Dst: true, A: true, B: true}, true
	case api.MIf, api.MPut, api.MExit:
		return Parts{A: true}, true
	case api.FStore:
		return Parts{A: true, B: true}, true
	case api.FCheck, api.FFree:
		return Parts{Args: 5}, true
	case api.FRead:
		return Parts{A: true, Outs: 4}, true
	case api.FWrite:
		return Parts{A: true, Args: 4}, true
	case api.FMalloc:
		return Parts{A: true, Outs: 5}, true
	case api.FCall:
		return Parts{Args: Several, Outs: Several}, true
	case api.FRet:
		return Parts{Args: Several}, true
	case api.MJump, api.FClear:
		return Parts{}, true
	}
	return Parts{}, false
}

// Reads are the registers that an instruction reads.
func Reads(i *api.Ins) []int {
	var l []int
	parts, _ := PartsOf(i.Op)
	if parts.A {
		l = append(l, i.A)
	}
	if parts.B {
		l = append(l, i.B)
	}
	return append(l, i.Args...)
}

// Writes are those that it writes.
func Writes(i *api.Ins) []int {
	var l []int
	if parts, _ := PartsOf(i.Op); parts.Dst {
		l = append(l, i.Dst)
	}
	return append(l, i.Outs...)
}

// Next are the places of the instructions that may come behind the one at a place.
func Next(i *api.Ins, at int) []int {
	switch i.Op {
	case api.FRet, api.MExit:
		return nil
	case api.MJump:
		return []int{i.To}
	case api.MIf:
		return []int{at + 1, i.To}
	}
	return []int{at + 1}
}
