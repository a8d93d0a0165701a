package fat_test

import (
	"math"
	"testing"

	"hauberk/api"
	"hauberk/fat"
	"hauberk/ins"
	"hauberk/samples"
)

// P12.1: Params are the arguments, in order; the registers beside them are 0 in each call.
func TestArguments(t *testing.T) {
	f := fn("f", []int{2, 7, 0}, ins.Put(2), ins.Put(0), ins.Put(7), ins.Put(1), ins.Put(15), ins.Const(1, 99), ins.Const(15, 99), ins.Ret(7, 2))
	u := units(fn("main", nil, ins.Const(0, 10), ins.Const(1, 20), ins.Const(2, 30), ins.Call("f", []int{0, 1, 2}, []int{5, 6}), ins.Put(5), ins.Put(6), ins.Put(0), ins.Call("f", []int{1, 1, 5}, []int{1, 0}), ins.Put(1), ins.Put(0), ins.Ret(2)), f)
	ran(t, u, "", api.Result{State: api.Exit, Code: 30, Out: []byte{10, 30, 20, 0, 0, 20, 10, 10, 20, 20, 20, 0, 0, 20, 20}, Steps: 11 + 2*8})
	// A function may hand its own registers to itself, in another order.
	swap := fn("f", []int{0, 1}, ins.If(0, 3), ins.Put(1), ins.Ret(1, 0), ins.Const(2, minus(1)), ins.Op(0, 0, 2, api.ADD), ins.Put(1), ins.Call("f", []int{1, 0}, []int{1, 0}), ins.Ret(0, 1))
	u = units(swap, fn("main", nil, ins.Const(0, 2), ins.Const(1, 1), ins.Call("f", []int{0, 1}, []int{1, 0}), ins.Put(0), ins.Put(1), ins.Ret(1)))
	ran(t, u, "", api.Result{State: api.Exit, Code: 0, Out: []byte{1, 1, 0, 0, 0, 0}, Steps: 6 + 3*6 + 3})
	// All 64 bits, and as many as there are registers.
	all := []int{15, 14, 13, 12, 11, 10, 9, 8, 7, 6, 5, 4, 3, 2, 1, 0}
	g := fn("g", all, ins.Ret(all...))
	is(t, units(fn("main", nil, append(sets(minus(1), 1<<63, 2, 3, 4), ins.Call("g", append([]int{0, 1, 2, 3, 4}, all[5:]...), append([]int{5, 6, 7, 8, 9}, 0, 1, 2, 3, 4, 10, 11, 12, 13, 14, 15)))...), g), 0, 0, 0, 0, 0, 0, 0, minus(1), 1<<63, 2, 3, 4)
	// The caller's are its own.
	h := fn("h", []int{0}, ins.Const(0, 1), ins.Const(1, 2), ins.Const(2, 3), ins.Ret())
	is(t, units(fn("main", nil, append(sets(7, 8, 9), ins.Call("h", []int{1}, nil))...), h), 0, 0, 7, 8, 9, 0)
}

// P12.1: what is answered comes into the Outs, in order; the other registers stay.
func TestAnswers(t *testing.T) {
	three := fn("three", nil, append(sets(1, 2, 3), ins.Ret(2, 0, 1))...)
	same := fn("same", nil, ins.Const(9, 5), ins.Ret(9, 9, 9))
	none := fn("none", nil, ins.Const(0, 5), ins.Ret())
	either := fn("either", []int{0}, ins.If(0, 3), ins.Const(1, 4), ins.Ret(0, 1), ins.Ret(1, 0))
	never := fn("never", []int{0}, ins.If(0, 2), ins.Exit(0), ins.Jump(1))
	of := func(l ...api.Ins) api.Unit { return units(three, same, fn("main", nil, l...), none, either, never) }
	is(t, of(ins.Call("three", nil, []int{0, 1, 2})), 2, 0, 3, 1, 2, 0)
	is(t, of(ins.Const(1, 7), ins.Call("three", nil, []int{4, 0, 2})), 2, 0, 1, 7, 2, 0, 3)
	is(t, of(ins.Call("same", nil, []int{0, 1, 2})), 2, 0, 5, 5, 5, 0)
	is(t, of(ins.Const(1, 7), ins.Call("none", nil, nil)), 2, 0, 0, 7)
	is(t, of(ins.Const(3, 9), ins.Call("either", []int{3}, []int{0, 1}), ins.Call("either", []int{2}, []int{2, 3})), 2, 0, 0, 9, 0, 4)
	// Of a function that never answers a call may have any Outs.
	for _, outs := range [][]int{nil, {3}, {0, 1, 2, 3, 4, 5}} {
		ran(t, of(ins.Const(3, 9), ins.Call("never", []int{3}, outs), ins.Put(0), ins.Ret()), "", api.Result{State: api.Exit, Code: 9, Steps: 5})
	}
	// What main answers a call of it is all that its FRet has.
	u := of(ins.Top(8, "v"), ins.Load(9, 8, 8), ins.If(9, 7), ins.Const(9, 1), ins.Store(8, 9, 8), ins.Call("main", nil, []int{0, 1}), ins.Put(1), ins.Const(4, 6), ins.Put(4), ins.Ret(4, 9))
	ran(t, u, "", api.Result{State: api.Exit, Code: 6, Out: []byte{6, 1, 6}, Steps: 10 + 6})
}

// P12.1: functions that come later may be called, and a variable and a function may have one name.
func TestSameNames(t *testing.T) {
	u := units(fn("main", nil, ins.Top(4, "main"), ins.Call("v", nil, []int{0}), ins.Store(4, 0, 4), ins.Load(1, 4, 4), ins.Ret(1)), fn("v", nil, ins.Const(0, 6), ins.Ret(0)))
	u.Tops = append(u.Tops, api.Top{Name: "main", Size: 4})
	ran(t, u, "", api.Result{State: api.Exit, Code: 6, Steps: 7})
}

// all runs a unit with each fuel up to what it needs, and with more.
func all(t *testing.T, u api.Unit, input []byte, limit int) api.Result {
	t.Helper()
	whole, wrong := samples.Fuels(func(fuel int) api.Result { return fat.Run(u, input, fuel) }, limit)
	if wrong != "" || whole.Why != 0 {
		t.Fatalf("P12.1, P12.2: %v: %v, %s", u, whole, wrong)
	}
	return whole
}

// P12.1, P12.2: with each fuel that a run has less than it needs, or just that; in all ways in which it may stop.
func TestFuel(t *testing.T) {
	putting := []api.Ins{ins.Const(0, 'a'), ins.Put(0), ins.Get(1), ins.Put(1), ins.Call("f", []int{1}, []int{2}), ins.Put(2)}
	for _, c := range []struct {
		last  api.Ins
		state int
	}{{ins.Ret(2), api.Exit}, {ins.Exit(2), api.Exit}, {ins.Check(1, five()...), api.Trap}, {ins.Free(five()...), api.Trap}, {ins.Malloc(5, five()...), api.NoRoom}, {ins.Load(0, 5, 1), api.Fault}, {ins.Store(5, 0, 1), api.Fault}, {ins.Call("deep", nil, nil), api.NoRoom}, {ins.Jump(0), api.Running}} {
		l := append(putting[:len(putting):len(putting)], c.last, ins.Ret(2))
		deep := plain("deep", nil, ins.Ret())
		for range 33 {
			deep.Slots = append(deep.Slots, api.MaxFrame)
		}
		r := all(t, units(fn("main", nil, l...), fn("f", []int{0}, ins.Put(0), ins.Put(0), ins.Ret(0)), deep), []byte("xyz"), 120)
		steps := 10
		if c.state == api.Running {
			steps = 120
		}
		code := byte(0)
		if c.state == api.Exit {
			code = 'x'
		}
		if r.State != c.state || r.Code != code || r.Steps != steps || string(r.Out[:5]) != "axxxx" {
			t.Errorf("P12.1: %v: %v", c, r)
		}
	}
}

// P12.1, P6: fuel at the ends of what an int may be.
func TestFuelEnds(t *testing.T) {
	for _, fuel := range []int{math.MinInt, -1 << 32, -1, 0} {
		for _, u := range []api.Unit{unit(ins.Ret(0)), unit(ins.Jump(0)), unit(ins.Load(0, 4, 4), ins.Ret(0)), unit(ins.Check(1, five()...), ins.Ret(0))} {
			if r := fat.Run(u, nil, fuel); !samples.Same(r, api.Result{}) {
				t.Errorf("P12.1: %d of fuel: %v", fuel, r)
			}
		}
		if r := fat.Run(api.Unit{}, nil, fuel); !samples.Same(r, api.Result{State: api.Fault}) {
			t.Errorf("P12.1: %d of fuel: %v", fuel, r)
		}
	}
	for _, fuel := range []int{1, 2, 1 << 32, math.MaxInt} {
		if r := fat.Run(unit(ins.Ret(0)), nil, fuel); !samples.Same(r, api.Result{State: api.Exit, Steps: 1}) {
			t.Errorf("P12.1: %d of fuel: %v", fuel, r)
		}
	}
}

// P6: calls by the million in one another; were they Go's, its stack would be full, which nothing could catch.
func TestDeep(t *testing.T) {
	u := api.Unit{Fns: []api.Fn{{Name: "main", Code: []api.Ins{ins.Call("main", nil, nil), ins.Ret()}}}}
	const fuel = 5000000
	if r := fat.Run(u, nil, fuel); !samples.Same(r, api.Result{Steps: fuel}) {
		t.Errorf("P6: %v", r)
	}
	f := plain("f", []int{0}, ins.If(0, 2), ins.Ret(0), ins.Const(1, minus(1)), ins.Op(0, 0, 1, api.ADD), ins.Call("f", []int{0}, []int{0}), ins.Const(1, 1), ins.Op(0, 0, 1, api.ADD), ins.Ret(0))
	u = units(f, fn("main", nil, ins.Const(0, 60007), ins.Call("f", []int{0}, []int{0}), ins.Ret(0)))
	if r := fat.Run(u, nil, math.MaxInt); !samples.Same(r, api.Result{State: api.Exit, Code: 60007 & 255, Steps: 3 + 2 + 60007*7}) {
		t.Errorf("P6: %v", r)
	}
	// With a slot each there is room for so many.
	f.Slots = []int{1}
	u = units(f, plain("main", nil, ins.Const(0, 1<<17-1), ins.Call("f", []int{0}, []int{0}), ins.Ret(0)))
	if r := fat.Run(u, nil, math.MaxInt); !samples.Same(r, api.Result{State: api.Exit, Code: 255, Steps: 3 + 2 + (1<<17-1)*7}) {
		t.Errorf("P12.1: %v", r)
	}
	u.Fns[1].Code[0].N = 1 << 17
	if r := fat.Run(u, nil, math.MaxInt); !samples.Same(r, api.Result{State: api.NoRoom, Steps: 2 + (1<<17)*4}) {
		t.Errorf("P12.1: %v", r)
	}
}
