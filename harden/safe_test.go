package harden_test

import (
	"reflect"
	"slices"
	"testing"

	"hauberk/api"
	"hauberk/fat"
	"hauberk/harden"
	"hauberk/ins"
)

// shaped asks of a hardened unit what the chapter says outright: of each function, of each of its calls, and of the unit.
func shaped(t *testing.T, what string, u, h api.Unit) {
	t.Helper()
	if !fat.Good(h) {
		t.Fatalf("P13.1: %s: not well formed: %v", what, h)
	}
	if len(u.Tops) != len(h.Tops) || len(u.Tops) > 0 && !reflect.DeepEqual(u.Tops, h.Tops) || len(u.Fns) != len(h.Fns) {
		t.Fatalf("P13.1: %s: other variables, or functions: %v", what, h)
	}
	for k, f := range u.Fns {
		g := h.Fns[k]
		if g.Name != f.Name || !slices.Equal(g.Slots, f.Slots) || len(g.Params) != registers(f, f.Params...) {
			t.Errorf("P13.1: %s: %v of %v", what, g, f)
		}
		for _, i := range g.Code {
			if i.Op == api.FRet && len(i.Args) != answers(u, f.Name) || i.Op == api.FCall && len(i.Outs) != answers(u, i.Name) {
				t.Errorf("P13.1: %s: %v: other answers: %v", what, f.Name, i)
			}
		}
		if at := unsafe(g); at >= 0 {
			t.Errorf("P13.1: %s: %s: instruction %d isn't safe: %v", what, f.Name, at, g.Code)
		}
	}
}

// registers are how many those of a function of blocks become.
func registers(f api.Fn, l ...int) int {
	n := 0
	for _, r := range l {
		n += 4*f.Kinds[r] - 3
	}
	return n
}

// answers are how many registers a function of a unit of blocks answers, hardened.
func answers(u api.Unit, name string) int {
	for _, f := range u.Fns {
		for _, i := range f.Code {
			if f.Name == name && i.Op == api.MRet && i.A >= 0 {
				return registers(f, i.A)
			}
		}
	}
	return 0
}

// unsafe is the first load or store of a function that isn't checked as the chapter asks; -1, if there is none.
func unsafe(f api.Fn) int {
	for at, i := range f.Code {
		if (i.Op == api.FLoad || i.Op == api.FStore) && !checked(f, at) {
			return at
		}
	}
	return -1
}

// checked looks for the check from a load or store on back.
func checked(f api.Fn, at int) bool {
	load := f.Code[at]
	for ; at > 0; at-- {
		if slices.ContainsFunc(f.Code, func(i api.Ins) bool { return (i.Op == api.MJump || i.Op == api.MIf) && i.To == at }) {
			return false
		}
		i := f.Code[at-1]
		switch i.Op {
		case api.FCheck:
			if i.Args[0] == load.A && i.Size == load.Size {
				return true
			}
		case api.MJump, api.MIf, api.FRet, api.MExit, api.FCall, api.FFree:
			return false
		case api.MConst, api.MMove, api.MOp, api.MNarrow, api.MGet, api.FTop, api.FSlot, api.FLock, api.FKey, api.FLoad:
			if i.Dst == load.A {
				return false
			}
		}
		if slices.Contains(i.Outs, load.A) {
			return false
		}
	}
	return false
}

// What asks whether a function is safe tells one that isn't, in each way in which one may not be.
func TestUnsafe(t *testing.T) {
	check := ins.Check(8, 0, 1, 2, 3, 4)
	for _, l := range [][]api.Ins{
		{check, ins.Load(5, 0, 8)}, {check, ins.Store(0, 5, 8)}, {check, ins.Load(5, 0, 8), ins.Store(0, 5, 8)}, {check, ins.Const(1, 5), ins.Check(4, 0, 1, 2, 3, 4), ins.Read(0, 1, 2, 3, 4), ins.Load(0, 0, 8)}, {ins.If(5, 1), check, ins.Load(5, 0, 8)},
	} {
		if at := unsafe(api.Fn{Code: append(l, ins.Ret())}); at != -1 {
			t.Errorf("%v: %d isn't", l, at)
		}
	}
	for _, l := range [][]api.Ins{
		{ins.Load(5, 0, 8)}, {ins.Store(0, 5, 8)}, {check, ins.Load(5, 0, 4)}, {check, ins.Store(0, 5, 1)}, {check, ins.Load(5, 1, 8)}, {check, ins.Const(0, 5), ins.Load(5, 0, 8)}, {check, ins.Read(1, 0, 6, 7, 8), ins.Load(5, 0, 8)}, {check, ins.Load(0, 0, 8), ins.Store(0, 5, 8)},
		{check, ins.If(5, 0), ins.Load(5, 0, 8)}, {check, ins.Jump(2), ins.Load(5, 0, 8)}, {ins.If(5, 2), check, ins.Load(5, 0, 8)}, {ins.If(5, 3), check, ins.Const(5, 5), ins.Load(5, 0, 8)}, {check, ins.Call("f", nil, nil), ins.Load(5, 0, 8)}, {check, ins.Free(0, 1, 2, 3, 4), ins.Load(5, 0, 8)}, {check, ins.Ret(), ins.Load(5, 0, 8)}, {check, ins.Exit(5), ins.Load(5, 0, 8)},
		{ins.Load(5, 0, 8), check}, {check, ins.Load(5, 0, 8), ins.If(5, 1)},
	} {
		if unsafe(api.Fn{Code: append(l, ins.Ret())}) < 0 {
			t.Errorf("%v: is safe", l)
		}
	}
}

// P13.1: each load and each store has one check, no more.
func TestChecks(t *testing.T) {
	u := lowered(t, rich)
	h := harden.Unit(u)
	shaped(t, rich, u, h)
	for k, f := range u.Fns {
		loads, checks := 0, 0
		for _, i := range f.Code {
			if i.Op == api.MLoad || i.Op == api.MStore {
				loads++
			}
		}
		for _, i := range h.Fns[k].Code {
			if i.Op == api.FCheck {
				checks++
			}
		}
		if checks != loads {
			t.Errorf("P13.1: %s: %d checks, %d loads and stores", f.Name, checks, loads)
		}
	}
}
