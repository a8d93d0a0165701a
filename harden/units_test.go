package harden_test

import (
	"testing"

	"hauberk/api"
	"hauberk/blocks"
	"hauberk/fat"
	"hauberk/harden"
	"hauberk/mid"
)

// fn is a function with registers 0 to 3 for numbers, 4 to 7 for pointers, and slots of 8 and 16 bytes.
func fn(name string, params []int, l ...api.Ins) api.Fn {
	return api.Fn{Name: name, Params: params, Kinds: []int{1, 1, 1, 1, 2, 2, 2, 2}, Slots: []int{8, 16}, Code: l}
}

// unit is one with variables v of 8 bytes, w of 16, and none of 0, and a main.
func unit(l ...api.Ins) api.Unit { return units(fn("main", nil, l...)) }

func units(l ...api.Fn) api.Unit {
	return api.Unit{Tops: []api.Top{{Name: "v", Size: 8}, {Name: "w", Size: 16}, {Name: "none", Size: 0}}, Fns: l}
}

// alike asks that a hardened unit does what the unit does, and answers that.
func alike(t *testing.T, u api.Unit) api.Result {
	t.Helper()
	r := mid.Run(u, nil, plenty)
	ran(t, "a unit", u, "", api.Result{State: way(r.State), Code: r.Code, Out: r.Out})
	if r.State == api.Fault || t.Failed() {
		t.Fatalf("%v: %v", u.Fns, r)
	}
	return r
}

// becomes asks which Code it is.
func becomes(t *testing.T, code byte, u api.Unit) {
	t.Helper()
	if r := alike(t, u); r.State != api.Exit || r.Code != code {
		t.Errorf("%v: %v, want %d", u.Fns, r, code)
	}
}

// P13.1: params, in their order, are registers of their own, one or five; so is what is answered.
func TestParams(t *testing.T) {
	f := fn("f", []int{7, 2, 4, 0}, blocks.Put(2), blocks.Put(0), blocks.Load(1, 7, 8), blocks.Put(1), blocks.Load(1, 4, 8), blocks.Put(1), blocks.Put(3), blocks.Is(3, 5), blocks.Put(3), blocks.Ret(7))
	main := fn("main", nil, blocks.Const(0, 10), blocks.Const(1, 20), blocks.Top(4, "v"), blocks.Top(5, "w"), blocks.Store(4, 0, 8), blocks.Store(5, 1, 8), blocks.Call(6, "f", 5, 0, 4, 1), blocks.Load(2, 6, 8), blocks.Put(2), blocks.Call(-1, "f", 4, 1, 4, 1), blocks.Call(4, "f", 5, 0, 4, 1), blocks.Load(2, 4, 8), blocks.Ret(2))
	u := units(main, f)
	becomes(t, 20, u)
	g := harden.Unit(u).Fns[1]
	if len(g.Params) != 12 || len(g.Code[len(g.Code)-1].Args) != 5 {
		t.Errorf("P13.1: %v", g)
	}
	for _, i := range g.Code {
		// The two numbers are put out first: the second of the params, and the last one.
		if i.Op == api.MPut {
			if i.A != g.Params[5] {
				t.Errorf("P13.1: %v put out first, of %v", i.A, g.Params)
			}
			break
		}
	}
}

// P13.1, P13.2: what isn't answered, but wanted, is 0 or to nothing; what is answered, but not wanted, goes nowhere.
func TestAnswers(t *testing.T) {
	seven, nothing, whole := fn("seven", nil, blocks.Const(1, 7), blocks.Ret(1)), fn("nothing", nil, blocks.Const(0, 7), blocks.Ret(-1)), fn("whole", nil, blocks.Top(4, "w"), blocks.Ret(4))
	some := fn("some", []int{0}, blocks.If(0, 2), blocks.Ret(-1), blocks.Const(1, 3), blocks.Ret(1))
	pointers := fn("pointers", []int{0}, blocks.If(0, 2), blocks.Ret(-1), blocks.Top(4, "v"), blocks.Ret(4))
	never := fn("never", []int{0}, blocks.If(0, 2), blocks.Exit(0), blocks.Jump(1))
	of := func(l ...api.Ins) api.Unit {
		return units(seven, nothing, fn("main", nil, l...), whole, some, pointers, never)
	}
	set := []api.Ins{blocks.Const(0, 1), blocks.Const(1, 9), blocks.Top(4, "v"), blocks.Store(4, 1, 8)}
	for _, c := range []struct {
		want byte
		l    []api.Ins
	}{
		{7, []api.Ins{blocks.Call(0, "seven"), blocks.Ret(0)}}, {1, []api.Ins{blocks.Call(-1, "seven"), blocks.Ret(0)}}, {0, []api.Ins{blocks.Call(0, "nothing"), blocks.Ret(0)}}, {1, []api.Ins{blocks.Call(-1, "nothing"), blocks.Ret(0)}}, {1, []api.Ins{blocks.Call(4, "nothing"), blocks.Is(0, 4), blocks.Ret(0)}},
		{0, []api.Ins{blocks.Call(4, "whole"), blocks.Is(0, 4), blocks.Ret(0)}}, {9, []api.Ins{blocks.Call(-1, "whole"), blocks.Load(0, 4, 8), blocks.Ret(0)}}, {3, []api.Ins{blocks.Call(0, "some", 0), blocks.Ret(0)}}, {0, []api.Ins{blocks.Call(1, "some", 2), blocks.Ret(1)}}, {9, []api.Ins{blocks.Call(-1, "some", 0), blocks.Ret(1)}},
		{9, []api.Ins{blocks.Call(5, "pointers", 0), blocks.Load(2, 5, 8), blocks.Ret(2)}}, {1, []api.Ins{blocks.Call(4, "pointers", 2), blocks.Is(0, 4), blocks.Ret(0)}}, {9, []api.Ins{blocks.Call(-1, "pointers", 2), blocks.Load(2, 4, 8), blocks.Ret(2)}},
		{9, []api.Ins{blocks.Call(0, "never", 1), blocks.Ret(0)}}, {9, []api.Ins{blocks.Call(4, "never", 1), blocks.Ret(0)}}, {9, []api.Ins{blocks.Call(-1, "never", 1), blocks.Ret(0)}}, {0, []api.Ins{blocks.Ret(-1)}},
	} {
		becomes(t, c.want, of(append(set[:4:4], c.l...)...))
	}
}

// P13.2: where a pointer stands, a number is 0; where a number stands, a pointer is to nothing; either is gone by a store of the other.
func TestBoth(t *testing.T) {
	for _, at := range []api.Ins{blocks.Top(4, "v"), blocks.Local(4, 0), blocks.Malloc(4, 3)} {
		for _, c := range []struct {
			want byte
			l    []api.Ins
		}{
			{0, []api.Ins{blocks.Top(5, "w"), blocks.Store(4, 5, 8), blocks.Load(0, 4, 8), blocks.Ret(0)}},
			{7, []api.Ins{blocks.Top(5, "w"), blocks.Store(4, 5, 8), blocks.Store(4, 1, 8), blocks.Load(0, 4, 8), blocks.Ret(0)}},
			{1, []api.Ins{blocks.Store(4, 1, 8), blocks.Load(5, 4, 8), blocks.Is(0, 5), blocks.Ret(0)}},
			{1, []api.Ins{blocks.Top(5, "w"), blocks.Store(4, 5, 8), blocks.Store(4, 1, 8), blocks.Load(5, 4, 8), blocks.Is(0, 5), blocks.Ret(0)}},
			{1, []api.Ins{blocks.Top(5, "w"), blocks.Store(4, 5, 8), blocks.Load(2, 4, 8), blocks.Store(4, 2, 8), blocks.Load(5, 4, 8), blocks.Is(0, 5), blocks.Ret(0)}},
			{0, []api.Ins{blocks.Store(4, 1, 8), blocks.Load(5, 4, 8), blocks.Store(4, 5, 8), blocks.Load(0, 4, 8), blocks.Ret(0)}},
			{0, []api.Ins{blocks.Add(5, 5, 1), blocks.Store(4, 5, 8), blocks.Load(0, 4, 8), blocks.Ret(0)}},
			{0, []api.Ins{blocks.Part(5, 5, 16, 8), blocks.Add(5, 5, 1), blocks.Store(4, 5, 8), blocks.Load(0, 4, 8), blocks.Ret(0)}},
			{0, []api.Ins{blocks.Malloc(5, 3), blocks.Free(5), blocks.Store(4, 5, 8), blocks.Load(0, 4, 8), blocks.Ret(0)}},
			{0, []api.Ins{blocks.Store(4, 4, 8), blocks.Load(4, 4, 8), blocks.Load(4, 4, 8), blocks.Load(0, 4, 8), blocks.Is(1, 4), blocks.Op(0, 0, 1, api.OR), blocks.Ret(0)}},
		} {
			becomes(t, c.want, unit(append([]api.Ins{blocks.Const(1, 7), blocks.Const(3, 8), at}, c.l...)...))
		}
		if r := alike(t, unit(blocks.Const(3, 8), at, blocks.Top(5, "w"), blocks.Store(4, 5, 8), blocks.Load(2, 4, 8), blocks.Store(4, 2, 8), blocks.Load(5, 4, 8), blocks.Load(0, 5, 8), blocks.Ret(0))); r.Why != api.ErrNull {
			t.Errorf("%v", r)
		}
	}
}

// P13.2: the slots of each call are 0 and to nothing at first, whatever an earlier call has left there.
func TestSlots(t *testing.T) {
	leave := fn("leave", nil, blocks.Const(0, 77), blocks.Local(4, 0), blocks.Local(5, 1), blocks.Store(4, 4, 8), blocks.Store(5, 0, 8), blocks.Const(1, 8), blocks.Add(5, 5, 1), blocks.Store(5, 4, 8), blocks.Ret(-1))
	nothing := []api.Ins{blocks.Load(0, 4, 8), blocks.Put(0), blocks.Load(6, 4, 8), blocks.Is(0, 6), blocks.Put(0), blocks.Const(1, 8), blocks.Add(4, 4, 1), blocks.Load(6, 4, 8), blocks.Is(0, 6), blocks.Put(0), blocks.Load(0, 4, 8), blocks.Ret(0)}
	for _, l := range [][]api.Ins{
		// By no store at all, by one of a part, by one behind a load, elsewhere, or only on another way.
		{blocks.Local(4, 1)},
		{blocks.Local(4, 1), blocks.Store(4, 0, 8)},
		{blocks.Local(5, 1), blocks.Move(4, 5)},
		{blocks.Local(4, 0), blocks.Store(4, 0, 8), blocks.Local(4, 1)},
		{blocks.Clear(0), blocks.Local(4, 1)},
		{blocks.Is(0, 4), blocks.If(0, 3), blocks.Clear(1), blocks.Local(4, 1)},
		{blocks.Is(0, 4), blocks.If(0, 4), blocks.Clear(1), blocks.Clear(0), blocks.Local(4, 1)},
		{blocks.Jump(3), blocks.Clear(1), blocks.Jump(4), blocks.Jump(2), blocks.Local(4, 1)},
		{blocks.If(0, 2), blocks.Jump(3), blocks.Clear(1), blocks.Local(4, 1)},
		{blocks.Clear(1), blocks.Local(4, 1)},
		{blocks.Local(4, 1), blocks.Clear(1)},
	} {
		f := fn("f", nil, append(l, nothing...)...)
		becomes(t, 0, units(fn("main", nil, blocks.Call(-1, "leave"), blocks.Call(0, "f"), blocks.Put(0), blocks.Call(-1, "leave"), blocks.Call(0, "f"), blocks.Ret(0)), f, leave))
	}
	// One that is as great as what is stored behind it elsewhere.
	other := fn("f", nil, blocks.Top(5, "v"), blocks.Local(4, 0), blocks.Store(5, 0, 8), blocks.Load(1, 4, 8), blocks.Load(6, 4, 8), blocks.Is(0, 6), blocks.Op(0, 0, 1, api.ADD), blocks.Ret(0))
	becomes(t, 1, units(fn("main", nil, blocks.Call(-1, "leave"), blocks.Call(0, "f"), blocks.Ret(0)), other, leave))
	// One that a store settles which the other way goes around.
	f := fn("f", nil, blocks.Is(0, 4), blocks.Jump(3), blocks.Local(4, 0), blocks.Local(4, 0), blocks.Load(1, 4, 8), blocks.Load(5, 4, 8), blocks.Is(0, 5), blocks.Op(0, 0, 1, api.ADD), blocks.Ret(0))
	becomes(t, 1, units(fn("main", nil, blocks.Call(-1, "leave"), blocks.Call(0, "f"), blocks.Ret(0)), f, leave))
	f.Code[3], f.Code[4] = blocks.Store(4, 4, 8), blocks.Local(4, 0)
	if r := alike(t, units(fn("main", nil, blocks.Call(-1, "leave"), blocks.Call(0, "f"), blocks.Ret(0)), f, leave)); r.Why != api.ErrNull {
		t.Errorf("%v", r)
	}
}

// What programs' units settle themselves isn't cleared once more.
func TestSettled(t *testing.T) {
	u := lowered(t, rich)
	for k, f := range harden.Unit(u).Fns {
		clears := 0
		for _, i := range u.Fns[k].Code {
			if i.Op == api.MClear {
				clears++
			}
		}
		for _, i := range f.Code {
			if i.Op == api.FClear {
				clears--
			}
		}
		if clears != 0 {
			t.Errorf("%s: %d more clearings: %v", f.Name, -clears, f.Code)
		}
	}
}

// P13.2: each call's slots are gone with it, all of them, and no others.
func TestCalls(t *testing.T) {
	second := fn("second", nil, blocks.Local(4, 1), blocks.Ret(4))
	inner := fn("inner", []int{4}, blocks.Const(0, 6), blocks.Store(4, 0, 8), blocks.Call(-1, "second"), blocks.Ret(4))
	if r := alike(t, units(fn("main", nil, blocks.Call(4, "second"), blocks.Load(0, 4, 8), blocks.Ret(0)), second)); r.Why != api.ErrGone {
		t.Errorf("%v", r)
	}
	becomes(t, 6, units(fn("main", nil, blocks.Local(4, 1), blocks.Call(5, "inner", 4), blocks.Call(-1, "second"), blocks.Load(0, 5, 8), blocks.Ret(0)), second, inner))
	// A function without slots has no lock, and needs none.
	plain := fn("plain", []int{4}, blocks.Const(0, 5), blocks.Store(4, 0, 8), blocks.Ret(4))
	plain.Slots = nil
	becomes(t, 5, units(fn("main", nil, blocks.Local(4, 0), blocks.Call(5, "plain", 4), blocks.Load(0, 5, 8), blocks.Ret(0)), plain))
	// main's slots, when it is called, are its own.
	becomes(t, 3, units(fn("main", nil, blocks.Top(4, "v"), blocks.Load(0, 4, 8), blocks.Const(1, 1), blocks.Op(0, 0, 1, api.ADD), blocks.Store(4, 0, 8), blocks.Local(5, 0), blocks.Store(5, 0, 8), blocks.Const(1, 3), blocks.Op(1, 0, 1, api.SLT), blocks.If(1, 13), blocks.Load(0, 5, 8), blocks.Put(0), blocks.Ret(0), blocks.Call(2, "main"), blocks.Load(0, 5, 8), blocks.Put(0), blocks.Ret(2))))
}

// P13.2: a pointer may move by any number that isn't made of a stride, and be loaded at.
func TestStrides(t *testing.T) {
	for _, l := range [][]api.Ins{
		{blocks.Const(0, 8), blocks.Add(4, 4, 0)},
		{blocks.Const(0, 4), blocks.Const(1, 4), blocks.Op(0, 0, 1, api.ADD), blocks.Add(4, 4, 0)},
		{blocks.Const(0, 20), blocks.Const(1, 12), blocks.Op(0, 0, 1, api.SUB), blocks.Add(4, 4, 0)},
		{blocks.Const(1, 8), blocks.Const(0, 1), blocks.Const(2, 12), blocks.Op(0, 0, 1, api.MUL), blocks.Add(4, 4, 0)},
		{blocks.Const(0, 8), blocks.Const(1, 12), blocks.Op(2, 1, 1, api.MUL), blocks.Add(4, 4, 0)},
		{blocks.Const(0, 8), blocks.Const(1, 1), blocks.Op(1, 1, 3, api.SLL), blocks.Op(0, 0, 1, api.MUL), blocks.Add(4, 4, 0)},
	} {
		l = append([]api.Ins{blocks.Top(4, "w"), blocks.Part(5, 4, 0, 8), blocks.Part(6, 4, 8, 4), blocks.Const(0, 7), blocks.Store(6, 0, 4)}, l...)
		becomes(t, 7, unit(append(l, blocks.Load(0, 4, 4), blocks.Ret(0))...))
	}
	// At a function's beginning there is nothing ahead.
	f := fn("f", []int{0, 4}, blocks.Add(4, 4, 0), blocks.Load(0, 4, 8), blocks.Add(4, 4, 1), blocks.Ret(0))
	becomes(t, 0, units(fn("main", nil, blocks.Top(4, "w"), blocks.Const(0, 8), blocks.Call(1, "f", 0, 4), blocks.Ret(1)), f))
}

// P13.1: jumps lead to what they led to, to the first instruction and to the last one, too.
func TestJumps(t *testing.T) {
	becomes(t, 3, unit(blocks.Top(4, "v"), blocks.Load(0, 4, 8), blocks.Const(1, 1), blocks.Op(0, 0, 1, api.ADD), blocks.Store(4, 0, 8), blocks.Const(1, 3), blocks.Op(1, 0, 1, api.SLT), blocks.If(1, 0), blocks.Jump(9), blocks.Ret(0)))
	becomes(t, 0, unit(blocks.Jump(2), blocks.Ret(0), blocks.Move(4, 4), blocks.Jump(1)))
	// What becomes no instruction at all may be gone to, too.
	u := unit(blocks.Move(4, 4), blocks.Jump(0))
	if r := fat.Run(harden.Unit(u), nil, 1000); r.State != api.Running || mid.Run(u, nil, 1000).State != api.Running {
		t.Errorf("P13.2: %v", r)
	}
}
