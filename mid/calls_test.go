package mid_test

import (
	"math"
	"testing"

	"hauberk/api"
	"hauberk/mid"
	"hauberk/samples"
)

// P10.1: Params are what is handed over, in order; the registers beside them are 0 and to nothing in each call.
func TestArguments(t *testing.T) {
	// Two numbers and two pointers, some of them twice, into registers in another order.
	f := fn("f", []int{2, 7, 0, 4, 1}, put(2), put(0), put(1), put(3), load(3, 7, 1), put(3), load(3, 4, 1), put(3), is(3, 5), put(3), constant(0, 99), constant(5, 1), ret(2))
	f.Code[11] = top(5, "v")
	u := units(fn("main", nil, constant(0, 10), constant(1, 20), constant(2, 30), top(4, "v"), top(5, "w"), constant(3, 40), store(4, 3, 1), constant(3, 50), store(5, 3, 1),
		call(3, "f", 0, 4, 1, 5, 2), put(3), put(0), call(3, "f", 1, 4, 1, 4, 3), ret(3)), f)
	ran(t, u, "", api.Result{State: api.Exit, Code: 20, Out: []byte{10, 20, 30, 0, 40, 50, 1, 10, 10, 20, 20, 10, 0, 40, 40, 1}, Steps: 14 + 2*13})
	// A function may hand its own registers to itself.
	swap := fn("f", []int{0, 1}, branch(0, 3), put(1), ret(1), constant(2, -1), op(0, 0, 2, api.ADD), put(1), call(0, "f", 1, 0), ret(0))
	u = units(swap, fn("main", nil, constant(0, 2), constant(1, 1), call(0, "f", 0, 1), ret(0)))
	ran(t, u, "", api.Result{State: api.Exit, Code: 0, Out: []byte{1, 1, 0, 0}, Steps: 4 + 3*6 + 3})
	// Those of the caller are its own.
	u = units(fn("main", nil, constant(0, 7), top(4, "v"), call(-1, "f", 0, 4), load(1, 4, 4), put(1), ret(0)), fn("f", []int{0, 4}, constant(1, 9), store(4, 1, 4), constant(0, 1), null(4), constant(2, 5), ret(-1)))
	ran(t, u, "", api.Result{State: api.Exit, Code: 7, Out: []byte{9}, Steps: 12})
}

// P10.1: the answer comes into Dst, if one is told; where nothing is answered it is 0, or to nothing.
func TestAnswers(t *testing.T) {
	seven, nothing := fn("seven", nil, constant(1, 7), ret(1)), fn("nothing", nil, constant(0, 7), top(4, "v"), ret(-1))
	whole := fn("whole", nil, top(4, "w"), part(5, 4, 4, 4), ret(5))
	some := fn("some", []int{0}, branch(0, 2), ret(-1), constant(1, 3), ret(1))
	pointers := fn("pointers", []int{0}, branch(0, 2), ret(-1), top(4, "v"), ret(4))
	of := func(l ...api.Ins) api.Unit {
		return units(seven, nothing, fn("main", nil, l...), whole, some, pointers)
	}
	ran(t, of(call(0, "seven"), ret(0)), "", api.Result{State: api.Exit, Code: 7, Steps: 4})
	ran(t, of(constant(0, 3), call(-1, "seven"), ret(0)), "", api.Result{State: api.Exit, Code: 3, Steps: 5})
	ran(t, of(constant(0, 3), call(1, "seven"), ret(0)), "", api.Result{State: api.Exit, Code: 3, Steps: 5})
	ran(t, of(constant(0, 3), call(-1, "nothing"), ret(0)), "", api.Result{State: api.Exit, Code: 3, Steps: 6})
	ran(t, of(constant(0, 3), call(0, "nothing"), ret(0)), "", api.Result{State: api.Exit, Code: 0, Steps: 6})
	ran(t, of(top(4, "w"), call(4, "nothing"), is(0, 4), ret(0)), "", api.Result{State: api.Exit, Code: 1, Steps: 7})
	ran(t, of(call(4, "whole"), constant(0, 6), store(4, 0, 4), load(1, 4, 4), put(1), load(1, 4, 8), ret(0)), "", api.Result{State: api.Stuck, Why: api.ErrBounds, Out: []byte{6}, Steps: 9})
	// The MRets of one function may be with an A and without.
	ran(t, of(constant(0, 1), call(2, "some", 0), put(2), call(2, "some", 1), put(2), ret(2)), "", api.Result{State: api.Exit, Out: []byte{3, 0}, Steps: 6 + 3 + 2})
	ran(t, of(constant(0, 1), call(4, "pointers", 0), is(2, 4), put(2), call(4, "pointers", 1), is(2, 4), put(2), ret(1)), "", api.Result{State: api.Exit, Out: []byte{0, 1}, Steps: 8 + 3 + 2})
}

// P10.1: slots are made for each call, and are gone with it.
func TestSlots(t *testing.T) {
	// f answers where its slot stands: there is nothing any more, also when f is called again.
	f := fn("f", nil, local(4, 0), load(0, 4, 4), put(0), constant(0, 8), store(4, 0, 4), ret(4))
	u := units(fn("main", nil, call(4, "f"), call(5, "f"), is(0, 4), put(0), load(0, 4, 4), ret(0)), f)
	ran(t, u, "", api.Result{State: api.Stuck, Why: api.ErrGone, Out: []byte{0, 0, 0}, Steps: 5 + 2*6})
	u = units(fn("main", nil, call(4, "f"), store(4, 0, 1), ret(0)), f)
	ran(t, u, "", api.Result{State: api.Stuck, Why: api.ErrGone, Out: []byte{0}, Steps: 2 + 6})
	u = units(fn("main", nil, call(4, "f"), free(4), ret(0)), f)
	ran(t, u, "", api.Result{State: api.Stuck, Why: api.ErrGone, Out: []byte{0}, Steps: 2 + 6})
	// All of them, not just the first.
	g := fn("g", nil, local(4, 1), ret(4))
	u = units(g, fn("main", nil, call(4, "g"), load(0, 4, 4), ret(0)))
	ran(t, u, "", api.Result{State: api.Stuck, Why: api.ErrGone, Steps: 2 + 2})
	// A caller's are there as long as it is; calls of the same function have their own.
	down := fn("down", []int{0, 4}, local(5, 0), store(5, 0, 4), is(1, 4), branch(1, 6), load(1, 4, 4), put(1), constant(2, -1), op(1, 0, 2, api.ADD), branch(0, 10), ret(-1), call(-1, "down", 1, 5), load(1, 5, 4), put(1), ret(-1))
	u = units(down, fn("main", nil, constant(0, 3), call(-1, "down", 0, 4), ret(0)))
	ran(t, u, "", api.Result{State: api.Exit, Code: 3, Out: []byte{3, 2, 1, 1, 2, 3}, Steps: 3 + 4*9 - 2 + 1 + 3*4})
	// What was made by malloc stays; variables do.
	h := fn("h", nil, constant(0, 4), malloc(4, 0), top(5, "v"), store(5, 4, 8), constant(0, 5), store(4, 0, 4), ret(4))
	u = units(h, fn("main", nil, call(4, "h"), load(0, 4, 4), put(0), top(5, "v"), load(6, 5, 8), free(6), load(0, 4, 4), ret(0)))
	ran(t, u, "", api.Result{State: api.Stuck, Why: api.ErrGone, Out: []byte{5}, Steps: 7 + 7})
}

// P10.1: a variable and a function may have one name; functions that come later may be called.
func TestSameNames(t *testing.T) {
	u := units(fn("main", nil, top(4, "main"), call(0, "v"), store(4, 0, 4), load(1, 4, 4), ret(1)), fn("v", nil, constant(0, 6), ret(0)))
	u.Tops = append(u.Tops, api.Top{Name: "main", Size: 4})
	ran(t, u, "", api.Result{State: api.Exit, Code: 6, Steps: 7})
}

// all runs a unit with each fuel up to what it needs, and with more.
func all(t *testing.T, u api.Unit, input []byte, limit int) api.Result {
	t.Helper()
	whole, wrong := samples.Fuels(func(fuel int) api.Result { return mid.Run(u, input, fuel) }, limit)
	if wrong != "" || whole.Checks != 0 {
		t.Fatalf("P10.1, P10.2: %v: %v, %s", u, whole, wrong)
	}
	return whole
}

// P10.1, P10.2: with each fuel that a run has less than it needs, or just that; in all ways in which it may stop.
func TestFuel(t *testing.T) {
	putting := []api.Ins{constant(0, 'a'), put(0), get(1), put(1), call(2, "f", 1), put(2)}
	for _, c := range []struct {
		last  api.Ins
		state int
		why   api.Errno
	}{{ret(0), api.Exit, 0}, {exit(0), api.Exit, 0}, {load(0, 4, 4), api.Stuck, api.ErrNull}, {store(4, 0, 4), api.Stuck, api.ErrNull}, {free(4), api.Stuck, api.ErrNull}, {malloc(4, 3), api.NoRoom, 0}, {jump(0), api.Running, 0}} {
		l := append(putting[:len(putting):len(putting)], c.last, ret(0))
		r := all(t, units(fn("main", nil, l...), fn("f", []int{0}, put(0), put(0), ret(0))), []byte("xyz"), 120)
		steps := 10
		if c.state == api.Running {
			steps = 120
		}
		if r.State != c.state || r.Why != c.why || r.Steps != steps || string(r.Out[:5]) != "axxxx" {
			t.Errorf("P10.1: %v: %v", c, r)
		}
	}
}

// P10.1, P6: fuel at the ends of what an int may be.
func TestFuelEnds(t *testing.T) {
	for _, fuel := range []int{math.MinInt, -1 << 32, -1, 0} {
		for _, u := range []api.Unit{unit(ret(0)), unit(jump(0)), unit(load(0, 4, 4), ret(0))} {
			if r := mid.Run(u, nil, fuel); !samples.Same(r, api.Result{}) {
				t.Errorf("P10.1: %d of fuel: %v", fuel, r)
			}
		}
		if r := mid.Run(api.Unit{}, nil, fuel); !samples.Same(r, api.Result{State: api.Fault}) {
			t.Errorf("P10.1: %d of fuel: %v", fuel, r)
		}
	}
	for _, fuel := range []int{1, 2, 1 << 32, math.MaxInt} {
		if r := mid.Run(unit(ret(0)), nil, fuel); !samples.Same(r, api.Result{State: api.Exit, Steps: 1}) {
			t.Errorf("P10.1: %d of fuel: %v", fuel, r)
		}
	}
}

// P6: calls by the million in one another; were they Go's, its stack would be full, which nothing could catch.
func TestDeep(t *testing.T) {
	u := api.Unit{Fns: []api.Fn{{Name: "main", Code: []api.Ins{call(-1, "main"), ret(-1)}}}}
	const fuel = 5000000
	if r := mid.Run(u, nil, fuel); !samples.Same(r, api.Result{Steps: fuel}) {
		t.Errorf("P6: %v", r)
	}
	f := fn("f", []int{0}, branch(0, 2), ret(0), constant(1, -1), op(0, 0, 1, api.ADD), call(0, "f", 0), constant(1, 1), op(0, 0, 1, api.ADD), ret(0))
	u = units(f, fn("main", nil, constant(0, 60007), call(0, "f", 0), ret(0)))
	if r := mid.Run(u, nil, math.MaxInt); !samples.Same(r, api.Result{State: api.Exit, Code: 60007 & 255, Steps: 3 + 2 + 60007*7}) {
		t.Errorf("P6: %v", r)
	}
}
