package fat_test

import (
	"testing"

	"hauberk/api"
	"hauberk/fat"
	"hauberk/ins"
	"hauberk/samples"
)

const (
	first  = 4096
	middle = 1 << 21
	last   = api.MaxMemory
)

// five are registers of a pointer's numbers: 0 to 4.
func five() []int { return []int{0, 1, 2, 3, 4} }

// P12.1: variables stand from 4096 on, each at the next multiple of 16.
func TestVariables(t *testing.T) {
	equal(t, list(4096, 4112, 4144), ins.Top(2, "none"), ins.Top(1, "w"), ins.Top(0, "v"))
	for _, c := range []struct{ sizes, at []int }{
		{[]int{1, 1}, []int{4096, 4112}}, {[]int{16, 1}, []int{4096, 4112}}, {[]int{15, 17, 1}, []int{4096, 4112, 4144}}, {[]int{32, 33, 31, 8}, []int{4096, 4128, 4176, 4208}},
		{[]int{0, 0, 8, 0, 9}, []int{4096, 4096, 4096, 4112, 4112}}, {[]int{middle - first - 16, 16}, []int{4096, middle - 16}}, {[]int{1 << 20, 5}, []int{4096, 1<<20 + 4096}},
	} {
		u := api.Unit{Fns: []api.Fn{plain("main", nil)}}
		var at []uint64
		for k, size := range c.sizes {
			name := string(rune('a' + k))
			u.Tops = append(u.Tops, api.Top{Name: name, Size: size})
			u.Fns[0].Code = append(u.Fns[0].Code, ins.Top(k, name))
			at = append(at, uint64(c.at[k]))
		}
		is(t, u, 0, 0, at...)
	}
	// A variable and a function may have one name.
	u := unit(ins.Top(0, "main"))
	u.Tops = append(u.Tops, api.Top{Name: "main", Size: 4})
	is(t, u, 0, 0, 4144)
}

// P12.1: of a unit whose variables stand above 2^21 nothing is told.
func TestVariablesAbove(t *testing.T) {
	for _, c := range []struct {
		sizes []int
		state int
	}{
		{[]int{middle - first}, api.Exit}, {[]int{middle - first - 15, 0}, api.Exit}, {[]int{middle - first, 0, 0}, api.Exit}, {[]int{middle - first - 16, 16}, api.Exit},
		{[]int{middle - first + 1}, api.Fault}, {[]int{middle}, api.Fault}, {[]int{api.MaxMemory}, api.Fault}, {[]int{middle - first - 15, 1}, api.Fault}, {[]int{middle - first, 1}, api.Fault}, {[]int{0, api.MaxMemory, 0}, api.Fault}, {[]int{api.MaxMemory, api.MaxMemory, api.MaxMemory, 1}, api.Fault},
	} {
		for _, fuel := range []int{-1, 0, 1, plenty} {
			u := api.Unit{Fns: []api.Fn{fn("main", nil, ins.Get(0), ins.Put(0), ins.Ret())}}
			for k, size := range c.sizes {
				u.Tops = append(u.Tops, api.Top{Name: string(rune('a' + k)), Size: size})
			}
			r := fat.Run(u, nil, fuel)
			switch {
			case !fat.Good(u):
				t.Errorf("P12.1: %v: not well formed", c.sizes)
			case c.state == api.Fault && !samples.Same(r, api.Result{State: api.Fault}):
				t.Errorf("P12.1: %v with %d of fuel: %v", c.sizes, fuel, r)
			case c.state == api.Exit && fuel == plenty && r.State != api.Exit:
				t.Errorf("P12.1: %v: %v", c.sizes, r)
			}
		}
	}
}

// P12.1: new blocks stand from the next multiple of 16 behind the variables on, each at the next multiple of 16 behind the last one, with new locks and keys.
func TestBlocks(t *testing.T) {
	first := func(size uint64) []api.Ins { return []api.Ins{ins.Const(0, size), ins.Malloc(0, five()...)} }
	// main has slots, and so lock 1 with key 2.
	equal(t, list(4144, 4144, 4153, 3, 2), first(9)...)
	is(t, api.Unit{Fns: []api.Fn{plain("main", nil, first(1)...)}}, 0, 0, 4096, 4096, 4097, 2, 1)
	is(t, api.Unit{Tops: []api.Top{{Name: "a", Size: 1}}, Fns: []api.Fn{plain("main", nil, first(40)...)}}, 0, 0, 4112, 4112, 4152, 2, 1)
	is(t, api.Unit{Tops: []api.Top{{Name: "a", Size: 16}}, Fns: []api.Fn{plain("main", nil, first(40)...)}}, 0, 0, 4112, 4112, 4152, 2, 1)
	for _, c := range [][2]uint64{{1, 16}, {9, 16}, {15, 16}, {16, 16}, {17, 32}, {32, 32}, {1 << 20, 1 << 20}, {1<<20 + 1, 1<<20 + 16}} {
		at := 4144 + c[1]
		second := append(first(c[0]), ins.Const(8, 5), ins.Malloc(8, five()...))
		equal(t, list(at, at, at+5, 4, 3), second...)
		// A place is never taken again, neither is a lock, nor a key.
		freed := append(first(c[0]), ins.Free(five()...), ins.Const(8, 5), ins.Malloc(8, five()...))
		equal(t, list(at, at, at+5, 4, 3), freed...)
	}
	// The Outs may be in any order, and the size's register among them.
	equal(t, list(4152, 8, 3, 4144, 2, 4144), ins.Const(1, 8), ins.Malloc(1, 3, 5, 0, 2, 4), ins.Const(1, 8))
	equal(t, list(0, 2, 4144, 4152, 3, 4144), ins.Const(2, 8), ins.Malloc(2, 5, 2, 3, 4, 1))
}

// P12.1: a new block is of from 1 to MaxMemory bytes, and ends at 2^21 at most; else the run stops.
func TestNoBlock(t *testing.T) {
	room := uint64(middle - 4144)
	for _, size := range []uint64{1, 16, room - 1, room} {
		equal(t, list(4144, 4144, 4144+size), ins.Const(0, size), ins.Malloc(0, five()...))
	}
	for _, size := range []uint64{0, room + 1, room + 16, middle, last, last + 1, 1 << 32, 1<<32 + 8, 1 << 63, 1<<63 + 8, minus(1), minus(8), minus(4144)} {
		ran(t, unit(ins.Const(8, 'm'), ins.Put(8), ins.Const(0, size), ins.Malloc(0, five()...), ins.Put(8), ins.Ret(0)), "", api.Result{State: api.NoRoom, Out: []byte("m"), Steps: 4})
	}
	// What others have taken, freed or not, is no room.
	half := room/2&^15 + 16
	stops(t, api.NoRoom, 0, ins.Const(0, half), ins.Malloc(0, five()...), ins.Const(0, half), ins.Malloc(0, five()...))
	stops(t, api.NoRoom, 0, ins.Const(0, half), ins.Malloc(0, five()...), ins.Free(five()...), ins.Const(0, half), ins.Malloc(0, five()...))
	equal(t, list(4144+half, 4144+half, middle), ins.Const(0, half), ins.Malloc(0, five()...), ins.Const(0, room-half), ins.Malloc(0, five()...))
	stops(t, api.NoRoom, 0, ins.Const(0, room-15), ins.Malloc(0, five()...), ins.Const(0, 1), ins.Malloc(0, five()...))
	equal(t, list(middle-16, middle-16, middle-15), ins.Const(0, room-16), ins.Malloc(0, five()...), ins.Const(0, 1), ins.Malloc(0, five()...))
	// All of it, by blocks of one byte.
	count := int(room) / 16
	u := unit(ins.Const(8, 1), ins.Malloc(8, five()...), ins.Jump(1))
	if r := fat.Run(u, nil, 1<<30); !samples.Same(r, api.Result{State: api.NoRoom, Steps: 2 + 2*count}) {
		t.Errorf("P12.1: %d blocks: %v", count, r)
	}
}

// P12.1: slots of calls stand from 2^21 on, each at the next multiple of 16 behind those of the calls that haven't ended.
func TestSlots(t *testing.T) {
	equal(t, list(middle, middle+16), ins.Slot(0, 0), ins.Slot(1, 1))
	for _, c := range []struct{ sizes, at []int }{
		{[]int{1}, []int{0}}, {[]int{1, 1, 16, 1}, []int{0, 16, 32, 48}}, {[]int{15, 17, 32, 33, 8}, []int{0, 16, 48, 80, 128}}, {[]int{api.MaxFrame, 3, api.MaxFrame - 1, 1}, []int{0, 65536, 65552, 131088}},
	} {
		main := plain("main", nil)
		main.Slots = c.sizes
		var at []uint64
		for k := range c.sizes {
			main.Code = append(main.Code, ins.Slot(k, k))
			at = append(at, uint64(middle+c.at[k]))
		}
		is(t, api.Unit{Fns: []api.Fn{main}}, 0, 0, at...)
	}
	// f's stand behind main's, and again there, when it is called again; of a call in between they stand behind that one's.
	f := fn("f", nil, ins.Slot(5, 0), ins.Slot(6, 1), ins.Ret(5, 6))
	g := fn("g", nil, ins.Call("f", nil, []int{2, 3}), ins.Slot(4, 1), ins.Ret(2, 3, 4))
	g.Slots = []int{4, 3}
	h := plain("h", nil, ins.Call("f", nil, []int{2, 3}), ins.Ret(2, 3))
	u := units(f, fn("main", nil, ins.Call("f", nil, []int{0, 1}), ins.Call("f", nil, []int{2, 3}), ins.Call("g", nil, []int{4, 5, 6}), ins.Call("h", nil, []int{7, 8}), ins.Slot(9, 1)), g, h)
	is(t, u, 1, 0, middle+48, middle+64, middle+48, middle+64, middle+80, middle+96, middle+64, middle+48, middle+64, middle+16)
}

// P12.1: slots end at MaxMemory at most; where they have no room the run stops, behind the FCall, or ahead of all.
func TestNoSlot(t *testing.T) {
	main := func(slots ...int) api.Unit {
		u := unit(ins.Const(0, 'x'), ins.Put(0), ins.Ret())
		u.Fns[0].Slots = slots
		return u
	}
	var full []int
	for range 32 {
		full = append(full, api.MaxFrame)
	}
	ran(t, main(full...), "", api.Result{State: api.Exit, Out: []byte("x"), Steps: 3})
	full[31] = api.MaxFrame - 16
	ran(t, main(append(full[:32:32], 16)...), "", api.Result{State: api.Exit, Out: []byte("x"), Steps: 3})
	for _, slots := range [][]int{append(full[:32:32], 17), append(full[:31:31], api.MaxFrame-15, 1), append(full[:32:32], 16, 1), append(full[:31:31], api.MaxFrame, 1)} {
		if r := fat.Run(main(slots...), nil, plenty); !samples.Same(r, api.Result{State: api.NoRoom}) {
			t.Errorf("P12.1: %v: %v", slots, r)
		}
	}
	// By calls: each has 20000 bytes, and so many multiples of 16 are 20000.
	f := plain("f", []int{0}, ins.Put(0), ins.Call("f", []int{0}, nil), ins.Ret())
	f.Slots = []int{20000}
	count := 1 << 21 / 20000
	out := make([]byte, count)
	ran(t, units(plain("main", nil, ins.Call("f", []int{0}, nil), ins.Ret()), f), "", api.Result{State: api.NoRoom, Out: out, Steps: 1 + 2*count})
	// Those of calls that have ended are no more in the way.
	f.Code = []api.Ins{ins.Ret()}
	f.Slots = []int{20000, 20000, 20000}
	u := units(plain("main", nil, ins.Const(0, 200), ins.Const(1, 1), ins.Call("f", []int{0}, nil), ins.Op(0, 0, 1, api.SUB), ins.If(0, 2), ins.Ret()), f)
	ran(t, u, "", api.Result{State: api.Exit, Steps: 2 + 200*4 + 1})
}

// P12.1: a call with slots has a new lock and a new key; one without has 0 and 0.
func TestLocks(t *testing.T) {
	equal(t, list(1, 2, 1), ins.Lock(0), ins.Key(1), ins.Lock(2))
	is(t, units(plain("main", nil, ins.Const(0, 9), ins.Const(1, 9), ins.Lock(0), ins.Key(1))), 0, 0, 0, 0)
	// Neither is given again, whichever asks for it.
	f := fn("f", nil, ins.Lock(5), ins.Key(6), ins.Ret(5, 6))
	g := plain("g", nil, ins.Lock(5), ins.Key(6), ins.Ret(5, 6))
	u := units(f, g, fn("main", nil, ins.Call("f", nil, []int{0, 1}), ins.Call("f", nil, []int{2, 3}), ins.Call("g", nil, []int{4, 5}), ins.Const(15, 8), ins.Malloc(15, 10, 11, 12, 7, 6), ins.Call("f", nil, []int{8, 9}), ins.Lock(10), ins.Key(11)))
	is(t, u, 2, 0, 2, 3, 3, 4, 0, 0, 4, 5, 5, 6, 1, 2)
}
