package fat_test

import (
	"slices"
	"testing"

	"hauberk/api"
	"hauberk/fat"
	"hauberk/ins"
	"hauberk/samples"
)

// sets makes registers 0, 1 and on these numbers.
func sets(l ...uint64) []api.Ins {
	var code []api.Ins
	for k, n := range l {
		code = append(code, ins.Const(k, n))
	}
	return code
}

// P12.1: an FCheck holds, if so many bytes from the value on are from the base to below the bound; all of these are unsigned.
func TestCheckBounds(t *testing.T) {
	for _, c := range []struct {
		value, base, bound uint64
		size               int
		holds              bool
	}{
		{4096, 4096, 4104, 8, true}, {4096, 4096, 4104, 1, true}, {4096, 4096, 4104, 9, false}, {4097, 4096, 4104, 8, false}, {4097, 4096, 4104, 7, true}, {4103, 4096, 4104, 1, true}, {4103, 4096, 4104, 2, false},
		{4104, 4096, 4104, 1, false}, {4105, 4096, 4104, 1, false}, {4105, 4096, 4104, api.MaxMemory, false}, {4095, 4096, 4104, 1, false}, {0, 4096, 4104, 1, false}, {4095, 4096, 1 << 40, 1, false},
		{5, 6, 5, 1, false}, {6, 6, 5, 1, false}, {5, 5, 5, 1, false}, {7, 6, 5, 1, false}, {0, 0, 1, 1, true}, {0, 0, 0, 1, false}, {3, 3, 4, 1, true}, {3, 3, 4, 2, false},
		{1 << 40, 0, 1<<40 + api.MaxMemory, api.MaxMemory, true}, {1 << 40, 0, 1<<40 + api.MaxMemory - 1, api.MaxMemory, false}, {0, 0, 1 << 63, api.MaxMemory, true}, {1 << 63, 0, 1 << 63, 1, false},
		{minus(8), 0, minus(1), 7, true}, {minus(8), 0, minus(1), 8, false}, {minus(8), 0, 8, 8, false}, {minus(8), minus(16), 8, 8, false}, {8, minus(16), 16, 8, false}, {8, 0, minus(16), 8, true},
		{1<<63 - 1, 0, 1 << 63, 1, true}, {1 << 63, 1<<63 - 1, 1<<63 + 1, 1, true}, {1<<63 + 1, 1 << 63, 1<<63 - 1, 1, false}, {0, 0, minus(1), 1, true}, {minus(1), minus(1), 0, 1, false},
	} {
		// Lock 0 has key 1, always; main has lock 1, with key 2.
		for _, k := range [][2]uint64{{1, 0}, {2, 1}} {
			l := append(sets(c.value, c.base, c.bound, k[0], k[1]), ins.Check(c.size, five()...))
			if c.holds {
				is(t, unit(l...), 0, 1, c.value, c.base, c.bound, k[0], k[1])
			} else {
				stops(t, api.Trap, 1, l...)
			}
		}
	}
}

// P12.1: an FCheck traps, if the lock isn't there, or hasn't the key, or the key is 0.
func TestCheckKeys(t *testing.T) {
	for _, c := range []struct {
		key, lock uint64
		holds     bool
	}{
		{1, 0, true}, {2, 1, true}, {3, 2, true}, {0, 0, false}, {2, 0, false}, {1, 1, false}, {0, 1, false}, {3, 1, false}, {2, 2, false}, {0, 2, false}, {4, 3, false}, {0, 3, false}, {1, 3, false},
		{1<<32 + 1, 0, false}, {1, 1 << 32, false}, {1, 1 << 63, false}, {minus(1), 0, false}, {1, minus(1), false}, {0, minus(1), false}, {0, 1 << 32, false}, {minus(1) - 1, minus(1), false},
	} {
		l := append([]api.Ins{ins.Const(8, 8), ins.Malloc(8, 9, 10, 11, 12, 13)}, sets(4096, 4096, 4104, c.key, c.lock)...)
		l = append(l, ins.Check(8, five()...))
		if c.holds {
			is(t, unit(l...), 0, 1, 4096, 4096, 4104, c.key, c.lock)
		} else {
			stops(t, api.Trap, 1, l...)
		}
	}
	// Without slots main has no lock.
	l := append(sets(4096, 4096, 4104, 2, 1), ins.Check(8, five()...), ins.Ret())
	ran(t, units(plain("main", nil, l...)), "", api.Result{State: api.Trap, Steps: 6, Checks: 1})
}

// P12.1: an FCheck takes its five registers in order, the same one more than once, too.
func TestCheckRegisters(t *testing.T) {
	l := []api.Ins{ins.Const(9, 5), ins.Const(3, 4), ins.Const(12, 7), ins.Const(1, 2), ins.Const(0, 1)}
	is(t, unit(append(l, ins.Check(2, 9, 3, 12, 1, 0))...), 0, 1, 1, 2)
	stops(t, api.Trap, 1, append(l, ins.Check(3, 9, 3, 12, 1, 0))...)
	stops(t, api.Trap, 1, append(l, ins.Check(1, 12, 3, 12, 1, 0))...)
	stops(t, api.Trap, 1, append(l, ins.Check(1, 3, 9, 12, 1, 0))...)
	stops(t, api.Trap, 1, append(l, ins.Check(1, 3, 3, 3, 1, 0))...)
	stops(t, api.Trap, 1, append(l, ins.Check(1, 3, 3, 12, 0, 1))...)
	is(t, unit(append(l, ins.Check(3, 3, 3, 12, 1, 0))...), 0, 1)
}

// P12.1: Checks are the FChecks that were done, whether they held or not.
func TestChecks(t *testing.T) {
	good, bad := sets(4096, 4096, 4104, 1, 0), []api.Ins{ins.Const(3, 2)}
	check := ins.Check(8, five()...)
	ran(t, unit(append(good, check, check, check, ins.Ret())...), "", api.Result{State: api.Exit, Steps: 9, Checks: 3})
	stops(t, api.Trap, 3, slices.Concat(good, []api.Ins{check, check}, bad, []api.Ins{check})...)
	ran(t, unit(append(good, ins.Jump(7), check, check, ins.Ret())...), "", api.Result{State: api.Exit, Steps: 8, Checks: 1})
	if r := fat.Run(unit(append(good, check, ins.Jump(5))...), nil, 5+2*7+1); !samples.Same(r, api.Result{Steps: 20, Checks: 8}) {
		t.Errorf("P12.1: %v", r)
	}
	for fuel := range 8 {
		if r := fat.Run(unit(append(good, check, check, ins.Ret())...), nil, fuel); r.Checks != max(0, fuel-5) {
			t.Errorf("P12.1: %d of fuel: %v", fuel, r)
		}
	}
}

// block makes registers 0 to 4 a new block of 8 bytes, at 4144 with key 3, lock 2.
func block(l ...api.Ins) []api.Ins {
	return append([]api.Ins{ins.Const(0, 8), ins.Malloc(0, five()...)}, l...)
}

// P12.1: what was freed is gone: its lock has no key any more, and no other has that one.
func TestFreed(t *testing.T) {
	check, free := ins.Check(1, five()...), ins.Free(five()...)
	is(t, unit(block(check)...), 0, 1, 4144, 4144, 4152, 3, 2)
	equal(t, list(4144, 4144, 4152, 3, 2), block(free)...)
	stops(t, api.Trap, 1, block(free, check)...)
	stops(t, api.Trap, 0, block(free, free)...)
	stops(t, api.Trap, 1, block(free, ins.Const(3, 0), check)...)
	stops(t, api.Trap, 0, block(free, ins.Const(3, 0), free)...)
	// Nor has a block that comes later.
	stops(t, api.Trap, 1, block(free, ins.Const(8, 8), ins.Malloc(8, 8, 9, 10, 11, 12), check)...)
	is(t, unit(block(free, ins.Const(8, 8), ins.Malloc(8, five()...), check)...), 0, 1, 4160, 4160, 4168, 4, 3)
	// Others stay.
	is(t, unit(block(ins.Const(8, 8), ins.Malloc(8, 8, 9, 10, 11, 12), ins.Free(8, 9, 10, 11, 12), check)...), 0, 1)
	// What stands there stays, too, as far as an FLoad can tell; the shadow does.
	equal(t, list(77), block(ins.Const(8, 77), ins.Store(0, 8, 8), free, ins.Load(0, 0, 8))...)
	equal(t, list(4144, 4152, 3, 2), block(ins.Move(9, 0), ins.Write(9, 1, 2, 3, 4), free, ins.Read(9, five()[:4]...))...)
}

// P12.1: an FFree traps, unless it is of all of a new block that isn't freed, with a key that its lock has.
func TestFree(t *testing.T) {
	free := ins.Free(five()...)
	of := func(holds bool, value, base, bound, key, lock uint64) {
		t.Helper()
		l := append(block(), sets(value, base, bound, key, lock)...)
		if holds {
			equal(t, list(value, base, bound, key, lock), append(l, free)...)
		} else {
			stops(t, api.Trap, 0, append(l, free)...)
		}
	}
	of(true, 4144, 4144, 4152, 3, 2)
	for _, value := range []uint64{0, 4096, 4143, 4145, 4152, 4144 + 1<<32, minus(1)} {
		of(false, value, 4144, 4152, 3, 2)
	}
	for _, base := range []uint64{0, 4096, 4143, 4145, 4148, 4152, 4160, minus(1)} {
		of(false, 4144, base, 4152, 3, 2)
		of(false, base, base, 4152, 3, 2)
		of(false, base, base, base+8, 3, 2)
		of(false, base, base, base, 3, 2)
		of(false, base, base, 0, 3, 2)
	}
	for _, bound := range []uint64{0, 4144, 4151, 4153, 4160, minus(1), 4152 + 1<<32} {
		of(false, 4144, 4144, bound, 3, 2)
	}
	for _, c := range [][2]uint64{{0, 0}, {0, 2}, {2, 2}, {1, 2}, {3, 1}, {3, 0}, {3, 3}, {4, 3}, {0, 3}, {3, 2 + 1<<32}, {3 + 1<<32, 2}, {3, minus(1)}, {0, minus(1)}} {
		of(false, 4144, 4144, 4152, c[0], c[1])
	}
	// Nothing but a new block.
	of(false, 4096, 4096, 4104, 1, 0)
	of(false, middle, middle, middle+8, 2, 1)
	of(false, 4144, 4144, 4144, 1, 0)
	of(false, 0, 0, 0, 0, 0)
	// In order, and each register once or more.
	equal(t, list(4144), ins.Const(7, 8), ins.Malloc(7, 0, 9, 5, 8, 3), ins.Free(0, 0, 5, 8, 3))
	stops(t, api.Trap, 0, ins.Const(7, 8), ins.Malloc(7, 0, 9, 5, 8, 3), ins.Free(5, 0, 5, 8, 3))
}

// P12.1: the lock that is told has no key any more, be it another's; the block is freed all the same.
func TestFreeByOthers(t *testing.T) {
	check := ins.Check(8, five()...)
	keys := func(key, lock uint64) []api.Ins { return []api.Ins{ins.Const(3, key), ins.Const(4, lock)} }
	then := func(l []api.Ins, more ...api.Ins) []api.Ins { return slices.Concat(l, more) }
	for _, other := range [][2]uint64{{1, 0}, {2, 1}} {
		byOther := then(block(), append(keys(other[0], other[1]), ins.Free(five()...))...)
		stops(t, api.Trap, 1, then(byOther, check)...)
		is(t, unit(then(byOther, append(keys(3, 2), check)...)...), 0, 1)
		stops(t, api.Trap, 0, then(byOther, append(keys(3, 2), ins.Free(five()...))...)...)
	}
	// A call's own lock may be gone ahead of the call.
	equal(t, list(4144, 4144, 4152, 2, 1), then(block(), ins.Lock(4), ins.Key(3), ins.Free(five()...), ins.Key(3), ins.Lock(4))...)
	f := fn("f", []int{0, 1, 2}, ins.Lock(4), ins.Key(3), ins.Free(five()...), ins.Ret())
	u := units(fn("main", nil, block(ins.Call("f", []int{0, 1, 2}, nil), ins.Call("f", []int{0, 1, 2}, nil))...), f)
	u.Fns[0].Code = append(u.Fns[0].Code, ins.Ret())
	ran(t, u, "", api.Result{State: api.Trap, Steps: 3 + 4 + 1 + 3})
}

// P12.1: with a call its lock loses the key; its caller's doesn't.
func TestCallsLock(t *testing.T) {
	pointer := []api.Ins{ins.Slot(0, 0), ins.Slot(1, 0), ins.Slot(2, 1), ins.Key(3), ins.Lock(4)}
	check := ins.Check(8, five()...)
	f := fn("f", nil, slices.Concat(pointer, []api.Ins{check, ins.Ret(five()...)})...)
	main := func(l ...api.Ins) api.Unit { return units(fn("main", nil, append(l, ins.Ret())...), f) }
	ran(t, main(ins.Call("f", nil, five())), "", api.Result{State: api.Exit, Steps: 1 + 7 + 1, Checks: 1, Code: 0})
	ran(t, main(ins.Call("f", nil, five()), check), "", api.Result{State: api.Trap, Steps: 1 + 7 + 1, Checks: 2})
	// When it is called again, what stands at the same place is another's.
	ran(t, main(ins.Call("f", nil, five()), ins.Call("f", nil, []int{5, 6, 7, 8, 9}), check), "", api.Result{State: api.Trap, Steps: 1 + 7 + 1 + 7 + 1, Checks: 3})
	g := fn("g", five(), check, ins.Ret())
	ran(t, units(fn("main", nil, append(pointer, ins.Call("g", five(), nil), ins.Call("g", five(), nil), check, ins.Ret())...), g), "", api.Result{State: api.Exit, Steps: 5 + 2*3 + 2, Checks: 3})
	// Where f has no slots, nothing loses its key with it: lock 0's stays.
	h := plain("h", nil, ins.Ret())
	l := append(sets(4096, 4096, 4104, 1, 0), ins.Call("h", nil, nil), check, ins.Ret())
	ran(t, units(fn("main", nil, l...), h), "", api.Result{State: api.Exit, Steps: 5 + 2 + 2, Checks: 1})
}
