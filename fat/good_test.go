package fat_test

import (
	"math"
	"testing"

	"hauberk/api"
	"hauberk/fat"
	"hauberk/ins"
	"hauberk/samples"
)

// rich is a unit with all there is: each instruction, two slots, variables, functions that answer one number, five, and nothing.
func rich() api.Unit {
	return units(
		fn("number", []int{1, 5}, ins.If(1, 2), ins.Ret(1), ins.Ret(5)),
		fn("pointer", []int{0, 1, 2, 3, 4}, ins.Ret(5, 5, 1, 0, 4)),
		fn("nothing", nil, ins.Ret()),
		fn("main", nil,
			ins.Const(0, minus(1)), ins.Move(0, 1), ins.Op(0, 1, 2, api.REMUW), ins.Narrow(0, 1, 4), ins.Top(4, "v"), ins.Slot(4, 1), ins.Lock(4), ins.Key(5),
			ins.Check(8, five()...), ins.Load(0, 4, 1), ins.Store(4, 0, 4), ins.Read(4, 0, 1, 2, 3), ins.Write(4, 5, 5, 6, 7), ins.Clear(1), ins.Malloc(0, five()...), ins.Free(five()...),
			ins.Call("number", []int{0, 4}, []int{7}), ins.Call("pointer", five(), []int{7, 6, 5, 4, 3}), ins.Call("nothing", nil, nil),
			ins.If(0, 0), ins.Put(0), ins.Get(0), ins.Exit(0), ins.Jump(0), ins.Ret(0, 0)),
	)
}

// good holds Good, and whether Run is a Fault and nothing else, against what is wanted.
func good(t *testing.T, u api.Unit, want bool, what string) {
	t.Helper()
	if got := fat.Good(u); got != want || got != modelGood(u) {
		t.Errorf("P12.1: %s: Good %v, want %v: %v", what, got, want, u)
	}
	r := fat.Run(u, []byte("x"), 20)
	if fault := samples.Same(r, api.Result{State: api.Fault}); fault == want {
		t.Errorf("P12.1: %s: %v", what, r)
	}
}

// P12.1: units that are well formed, at the edges.
func TestGood(t *testing.T) {
	good(t, rich(), true, "rich")
	good(t, api.Unit{Fns: []api.Fn{{Name: "main", Code: []api.Ins{ins.Ret()}}}}, true, "least")
	good(t, api.Unit{Tops: []api.Top{}, Fns: []api.Fn{{Name: "main", Params: []int{}, Kinds: []int{}, Slots: []int{}, Code: []api.Ins{{Op: api.FRet, Args: []int{}, Outs: []int{}}}}}}, true, "empty lists")
	for _, l := range [][]api.Ins{
		{ins.Jump(0)}, {ins.Exit(0)}, {ins.Jump(1), ins.Ret(4)}, {ins.If(0, 1), ins.If(0, 0), ins.Jump(2)}, {ins.Check(api.MaxMemory, 0, 0, 0, 0, 15), ins.Ret()}, {ins.Check(1, 15, 15, 15, 15, 15), ins.Ret()}, {ins.Check(7, 1, 2, 3, 4, 5), ins.Ret()},
		{ins.Op(0, 0, 0, 1), ins.Op(15, 15, 15, 27), ins.Ret()}, {ins.Const(15, math.MaxUint64), ins.Ret()}, {ins.Ret(), ins.Ret(1), ins.Ret(0, 1, 1, 1, 15)}, {ins.Slot(0, 0), ins.Clear(0), ins.Slot(15, 1), ins.Jump(0)},
		{ins.Top(0, "none"), ins.Jump(0)}, {ins.Free(1, 1, 1, 1, 1), ins.Jump(0)}, {ins.Write(1, 1, 1, 1, 1), ins.Read(15, 15, 14, 13, 12), ins.Malloc(0, 4, 3, 2, 1, 0), ins.Jump(0)},
		{ins.Call("main", nil, nil), ins.Jump(0)}, {ins.Call("main", nil, []int{0, 1, 2, 3, 4, 5, 6}), ins.Jump(0)}, {ins.Call("main", nil, []int{0}), ins.Ret(3)}, {ins.Call("main", nil, []int{1, 0}), ins.If(0, 3), ins.Ret(4, 4), ins.Ret(0, 1)},
	} {
		good(t, unit(l...), true, "code")
	}
	u := rich()
	u.Tops = []api.Top{{Name: "v", Size: 0}, {Name: "main", Size: 1}}
	u.Fns[3].Slots = []int{api.MaxFrame, 1}
	good(t, u, true, "sizes")
	u.Tops[1].Size = api.MaxMemory
	if !fat.Good(u) {
		t.Error("P12.1: a variable of MaxMemory bytes isn't well formed")
	}
	wide := fn("wide", []int{7, 0, 3, 4, 1, 5, 2, 6}, ins.Ret())
	good(t, units(wide, fn("main", nil, ins.Call("wide", []int{4, 0, 0, 5, 1, 5, 2, 4}, nil), ins.Ret())), true, "params in another order, arguments twice")
	// A function that isn't called may answer more and less; so may none that is.
	differs := fn("differs", nil, ins.If(0, 2), ins.Ret(), ins.Ret(1))
	good(t, units(differs, fn("main", nil, ins.If(0, 2), ins.Ret(), ins.Ret(1))), true, "answers that differ")
	for _, outs := range [][]int{nil, {0}, {0, 1}} {
		good(t, units(differs, fn("main", nil, ins.Call("differs", nil, outs), ins.Ret())), false, "answers that differ, called")
	}
	never := fn("never", nil, ins.Jump(0))
	good(t, units(never, fn("main", nil, ins.Call("never", nil, nil), ins.Call("never", nil, []int{3, 2, 1, 0, 9, 8}), ins.Ret())), true, "no answer")
}

// P12.1: units that aren't.
func TestBad(t *testing.T) {
	good(t, api.Unit{}, false, "nothing")
	good(t, api.Unit{Tops: rich().Tops}, false, "no function")
	good(t, api.Unit{Fns: []api.Fn{{}}}, false, "an empty function")
	main := func(l ...api.Ins) func(u *api.Unit) {
		return func(u *api.Unit) { u.Fns[3].Code = append(l, ins.Ret()) }
	}
	for what, change := range map[string]func(u *api.Unit){
		"no main":                 func(u *api.Unit) { u.Fns[3].Name = "Main" },
		"main with Params":        func(u *api.Unit) { u.Fns[3].Params = []int{0} },
		"function without name":   func(u *api.Unit) { u.Fns[2].Name = ""; main()(u) },
		"two functions":           func(u *api.Unit) { u.Fns[2].Name = "number"; main()(u) },
		"two mains":               func(u *api.Unit) { u.Fns[2].Name = "main"; main()(u) },
		"two variables":           func(u *api.Unit) { u.Tops[2].Name = "w" },
		"two variables, apart":    func(u *api.Unit) { u.Tops[2].Name = "v" },
		"variable without name":   func(u *api.Unit) { u.Tops[2].Name = "" },
		"variable too small":      func(u *api.Unit) { u.Tops[2].Size = -1 },
		"variable too great":      func(u *api.Unit) { u.Tops[1].Size = api.MaxMemory + 1 },
		"slot of nothing":         func(u *api.Unit) { u.Fns[2].Slots[1] = 0 },
		"slot below nothing":      func(u *api.Unit) { u.Fns[2].Slots[0] = -8 },
		"slot too great":          func(u *api.Unit) { u.Fns[3].Slots[1] = api.MaxFrame + 1 },
		"kind 0":                  func(u *api.Unit) { u.Fns[2].Kinds[15] = 0 },
		"kind 2":                  func(u *api.Unit) { u.Fns[3].Kinds[14] = 2 },
		"kind -1":                 func(u *api.Unit) { u.Fns[0].Kinds[7] = -1 },
		"Params twice":            func(u *api.Unit) { u.Fns[0].Params = []int{1, 1} },
		"Param below":             func(u *api.Unit) { u.Fns[0].Params = []int{-1, 5} },
		"Param above":             func(u *api.Unit) { u.Fns[0].Params = []int{1, 16} },
		"more Params":             func(u *api.Unit) { u.Fns[0].Params = []int{1, 5, 2} },
		"fewer Params":            func(u *api.Unit) { u.Fns[0].Params = []int{1} },
		"no code":                 func(u *api.Unit) { u.Fns[2].Code = nil },
		"no code at the end":      func(u *api.Unit) { u.Fns[3].Code = u.Fns[3].Code[:len(u.Fns[3].Code)-3] },
		"ends by MIf":             func(u *api.Unit) { u.Fns[2].Code = []api.Ins{ins.If(0, 0)} },
		"ends by FCall":           func(u *api.Unit) { u.Fns[2].Code = []api.Ins{ins.Call("nothing", nil, nil)} },
		"ends by MRet":            func(u *api.Unit) { u.Fns[2].Code = []api.Ins{{Op: api.MRet, A: -1}} },
		"answers more":            func(u *api.Unit) { u.Fns[0].Code = []api.Ins{ins.Ret(1, 0)} },
		"answers less":            func(u *api.Unit) { u.Fns[1].Code = []api.Ins{ins.Ret(1, 0, 1, 2)} },
		"answers nothing":         func(u *api.Unit) { u.Fns[0].Code = []api.Ins{ins.If(0, 2), ins.Ret(4), ins.Ret()} },
		"answers more at last":    func(u *api.Unit) { u.Fns[0].Code = []api.Ins{ins.Ret(4), ins.Ret(4), ins.Ret(4, 5)} },
		"answers something":       func(u *api.Unit) { u.Fns[2].Code = []api.Ins{ins.Ret(), ins.Ret(4), ins.Ret()} },
		"uncalled isn't":          func(u *api.Unit) { u.Fns[2].Code = []api.Ins{ins.Jump(1)}; main()(u) },
		"uncalled names what isn": func(u *api.Unit) { u.Fns[2].Code = []api.Ins{ins.Top(4, "x"), ins.Ret()}; main()(u) },
		"variable is a function":  main(ins.Top(4, "number")),
		"function is a variable":  main(ins.Call("v", nil, nil)),
		"variable of no name":     main(ins.Top(4, "")),
		"function of no name":     main(ins.Call("", nil, nil)),
		"call without arguments":  main(ins.Call("number", nil, []int{0})),
		"call with too many":      main(ins.Call("nothing", []int{0}, nil)),
		"call by what isn't":      main(ins.Call("number", []int{0, 16}, []int{0})),
		"call by none":            main(ins.Call("number", []int{-1, 0}, []int{0})),
		"call into nothing":       main(ins.Call("number", []int{0, 1}, nil)),
		"call into too many":      main(ins.Call("nothing", nil, []int{0})),
		"call into what isn't":    main(ins.Call("number", []int{0, 1}, []int{16})),
		"call into one twice":     main(ins.Call("pointer", five(), []int{0, 1, 2, 3, 0})),
		"read into one twice":     main(ins.Read(0, 1, 2, 3, 1)),
		"malloc into one twice":   main(ins.Malloc(0, 1, 2, 2, 3, 4)),
		"read into five":          main(ins.Read(0, 1, 2, 3, 4, 5)),
		"write of five":           main(ins.Write(0, 1, 2, 3, 4, 5)),
		"malloc into four":        main(ins.Malloc(0, 1, 2, 3, 4)),
		"check of four":           main(ins.Check(8, 1, 2, 3, 4)),
		"free of six":             main(ins.Free(1, 2, 3, 4, 5, 6)),
		"check of no bytes":       main(ins.Check(0, five()...)),
		"check of too many":       main(ins.Check(api.MaxMemory+1, five()...)),
		"MNull":                   main(api.Ins{Op: api.MNull}),
		"MCall":                   main(api.Ins{Op: api.MCall, Dst: -1, Name: "nothing"}),
	} {
		u := rich()
		change(&u)
		good(t, u, false, what)
	}
}

// P12.1: of each instruction each part as another, and two of them, against the chapter's words as rows.
func TestParts(t *testing.T) {
	tally := map[bool]int{}
	for k, i := range rich().Fns[3].Code {
		for n, j := range samples.Changes(i) {
			for m := range 2 {
				if m > 0 {
					others := samples.Changes(j)
					j = others[(k*57+n*31)%len(others)]
				}
				u := rich()
				u.Fns[3].Code[k] = j
				want := modelGood(u)
				if got := fat.Good(u); got != want {
					t.Fatalf("P12.1: %v as %v: Good %v, want %v", i, j, got, want)
				}
				tally[want]++
			}
		}
	}
	if tally[true] < 500 || tally[false] < 10000 {
		t.Errorf("only %v", tally)
	}
}
