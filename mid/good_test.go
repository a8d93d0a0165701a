package mid_test

import (
	"math"
	"testing"

	"hauberk/api"
	"hauberk/mid"
	"hauberk/samples"
)

// rich is a unit with all there is: each instruction, registers of both kinds, two slots, variables, functions that answer of either kind, and of none.
func rich() api.Unit {
	return units(
		fn("number", []int{1, 5}, ret(1)),
		fn("pointer", []int{4}, branch(0, 2), ret(4), ret(-1)),
		fn("nothing", nil, ret(-1)),
		fn("main", nil,
			constant(0, -1), move(0, 1), move(4, 5), op(0, 1, 2, api.REMUW), narrow(0, 1, 4), null(4), top(4, "v"), local(4, 1), add(4, 5, 0), part(4, 5, 3, 9), is(0, 4),
			load(0, 4, 1), load(4, 5, 8), store(4, 0, 4), store(4, 5, 8), empty(1), malloc(4, 0), free(4),
			call(0, "number", 0, 4), call(4, "pointer", 5), call(-1, "number", 1, 5), call(0, "nothing"), call(4, "nothing"), call(-1, "nothing"),
			branch(0, 0), put(0), get(0), exit(0), jump(0), ret(0)),
	)
}

// good holds Good, and whether Run is a Fault, against what is wanted.
func good(t *testing.T, u api.Unit, want bool, what string) {
	t.Helper()
	if got := mid.Good(u); got != want {
		t.Errorf("P10.1: %s: Good %v, want %v: %v", what, got, want, u)
	}
	r := mid.Run(u, []byte("x"), 20)
	if want && r.State == api.Fault || !want && !samples.Same(r, api.Result{State: api.Fault}) {
		t.Errorf("P10.1: %s: %v", what, r)
	}
}

// P10.1: units that are well formed, at the edges.
func TestGood(t *testing.T) {
	good(t, rich(), true, "rich")
	good(t, api.Unit{Fns: []api.Fn{{Name: "main", Code: []api.Ins{ret(-1)}}}}, true, "least")
	good(t, api.Unit{Tops: []api.Top{}, Fns: []api.Fn{{Name: "main", Params: []int{}, Kinds: []int{}, Slots: []int{}, Code: []api.Ins{{Op: api.MRet, A: -1, Args: []int{}, Outs: []int{}}}}}}, true, "empty lists")
	for _, l := range [][]api.Ins{
		{jump(0)}, {exit(0)}, {jump(1), ret(4)}, {branch(0, 1), branch(0, 0), jump(2)}, {part(4, 4, api.MaxMemory-1, api.MaxMemory), ret(0)}, {part(4, 4, 0, 1), ret(0)},
		{op(0, 0, 0, 1), op(3, 3, 3, 27), ret(0)}, {api.Ins{Op: api.MConst, N: math.MaxUint64}, ret(0)}, {ret(-1), ret(1), ret(0)}, {ret(4), ret(-1), ret(7)}, {move(7, 4), move(3, 0), jump(0)},
		{load(7, 7, 8), load(3, 7, 8), store(7, 3, 8), store(7, 7, 8), jump(0)}, {local(4, 0), empty(1), jump(0)}, {top(4, "none"), jump(0)}, {call(0, "main"), call(4, "main"), jump(0)}, {call(0, "main"), ret(3)}, {call(5, "main"), ret(4)},
	} {
		good(t, unit(l...), true, "code")
	}
	u := rich()
	u.Tops = []api.Top{{Name: "v", Size: api.MaxMemory}, {Name: "main"}}
	u.Fns[3].Slots = []int{api.MaxFrame, 1}
	good(t, u, true, "sizes")
	wide := fn("wide", []int{7, 0, 3, 4, 1, 5, 2, 6}, ret(-1))
	good(t, units(wide, fn("main", nil, call(-1, "wide", 4, 0, 0, 5, 1, 5, 2, 4), ret(-1))), true, "params in another order, arguments twice")
	other := api.Fn{Name: "other", Params: []int{1, 0}, Kinds: []int{p, n}, Code: []api.Ins{ret(0)}}
	good(t, units(other, fn("main", nil, call(4, "other", 0, 5), ret(-1))), true, "kinds of another function")
}

// P10.1: units that aren't.
func TestBad(t *testing.T) {
	good(t, api.Unit{}, false, "nothing")
	good(t, api.Unit{Tops: rich().Tops}, false, "no function")
	good(t, api.Unit{Fns: []api.Fn{{}}}, false, "an empty function")
	for what, change := range map[string]func(u *api.Unit){
		"no main":                 func(u *api.Unit) { u.Fns[3].Name = "Main" },
		"main with Params":        func(u *api.Unit) { u.Fns[3].Params = []int{0} },
		"function without name":   func(u *api.Unit) { u.Fns[2].Name = ""; u.Fns[3].Code = []api.Ins{ret(0)} },
		"two functions":           func(u *api.Unit) { u.Fns[2].Name = "number"; u.Fns[3].Code = []api.Ins{ret(0)} },
		"two mains":               func(u *api.Unit) { u.Fns[2].Name = "main"; u.Fns[3].Code = []api.Ins{ret(0)} },
		"two variables":           func(u *api.Unit) { u.Tops[2].Name = "w" },
		"two variables, apart":    func(u *api.Unit) { u.Tops[2].Name = "v" },
		"variable without name":   func(u *api.Unit) { u.Tops[2].Name = "" },
		"variable too small":      func(u *api.Unit) { u.Tops[2].Size = -1 },
		"variable too great":      func(u *api.Unit) { u.Tops[1].Size = api.MaxMemory + 1 },
		"slot of nothing":         func(u *api.Unit) { u.Fns[2].Slots[1] = 0 },
		"slot below nothing":      func(u *api.Unit) { u.Fns[2].Slots[0] = -8 },
		"slot too great":          func(u *api.Unit) { u.Fns[3].Slots[1] = api.MaxFrame + 1 },
		"kind 0":                  func(u *api.Unit) { u.Fns[2].Kinds[3] = 0 },
		"kind 3":                  func(u *api.Unit) { u.Fns[3].Kinds[7] = 3 },
		"kind -1":                 func(u *api.Unit) { u.Fns[0].Kinds[7] = -1 },
		"Params twice":            func(u *api.Unit) { u.Fns[0].Params = []int{1, 1} },
		"Param below":             func(u *api.Unit) { u.Fns[0].Params = []int{-1, 5} },
		"Param above":             func(u *api.Unit) { u.Fns[0].Params = []int{1, 8} },
		"Params of another kind":  func(u *api.Unit) { u.Fns[0].Params = []int{5, 1} },
		"more Params":             func(u *api.Unit) { u.Fns[0].Params = []int{1, 5, 2} },
		"fewer Params":            func(u *api.Unit) { u.Fns[0].Params = []int{1} },
		"no code":                 func(u *api.Unit) { u.Fns[2].Code = nil },
		"no code at the end":      func(u *api.Unit) { u.Fns[3].Code = u.Fns[3].Code[:len(u.Fns[3].Code)-3] },
		"ends by MIf":             func(u *api.Unit) { u.Fns[2].Code = []api.Ins{branch(0, 0)} },
		"ends by MCall":           func(u *api.Unit) { u.Fns[2].Code = []api.Ins{call(-1, "nothing")} },
		"answers of both":         func(u *api.Unit) { u.Fns[1].Code = []api.Ins{branch(0, 2), ret(4), ret(0)} },
		"main answers of both":    func(u *api.Unit) { u.Fns[3].Code = append([]api.Ins{ret(4)}, u.Fns[3].Code...) },
		"answers a number":        func(u *api.Unit) { u.Fns[1].Code = []api.Ins{ret(0)} },
		"answers a pointer":       func(u *api.Unit) { u.Fns[0].Code = []api.Ins{ret(-1), ret(4), ret(-1)} },
		"answers behind the end":  func(u *api.Unit) { u.Fns[2].Code = []api.Ins{ret(-1), ret(4), ret(-1)} },
		"uncalled isn't":          func(u *api.Unit) { u.Fns[2].Code = []api.Ins{jump(1)}; u.Fns[3].Code = []api.Ins{ret(0)} },
		"uncalled names what isn": func(u *api.Unit) { u.Fns[2].Code = []api.Ins{top(4, "x"), ret(-1)}; u.Fns[3].Code = []api.Ins{ret(0)} },
		"variable is a function":  func(u *api.Unit) { u.Fns[3].Code = []api.Ins{top(4, "number"), ret(0)} },
		"function is a variable":  func(u *api.Unit) { u.Fns[3].Code = []api.Ins{call(-1, "v"), ret(0)} },
		"variable of no name":     func(u *api.Unit) { u.Fns[3].Code = []api.Ins{top(4, ""), ret(0)} },
		"function of no name":     func(u *api.Unit) { u.Fns[3].Code = []api.Ins{call(-1, ""), ret(0)} },
		"call without arguments":  func(u *api.Unit) { u.Fns[3].Code = []api.Ins{call(-1, "number"), ret(0)} },
		"call with too many":      func(u *api.Unit) { u.Fns[3].Code = []api.Ins{call(-1, "nothing", 0), ret(0)} },
		"call by other kinds":     func(u *api.Unit) { u.Fns[3].Code = []api.Ins{call(-1, "number", 4, 0), ret(0)} },
		"call by what isn't":      func(u *api.Unit) { u.Fns[3].Code = []api.Ins{call(-1, "pointer", 8), ret(0)} },
		"call by none":            func(u *api.Unit) { u.Fns[3].Code = []api.Ins{call(-1, "pointer", -1), ret(0)} },
		"number for a pointer":    func(u *api.Unit) { u.Fns[3].Code = []api.Ins{call(4, "number", 0, 4), ret(0)} },
		"pointer for a number":    func(u *api.Unit) { u.Fns[3].Code = []api.Ins{call(0, "pointer", 4), ret(0)} },
	} {
		u := rich()
		change(&u)
		good(t, u, false, what)
	}
}

// P10.1: of each instruction each part as another, and two of them, against the chapter's words as rows.
func TestParts(t *testing.T) {
	tally := map[bool]int{}
	for k, i := range rich().Fns[3].Code {
		for _, j := range samples.Changes(i) {
			for m := range 4 {
				u, j := rich(), j
				if m > 0 {
					others := samples.Changes(j)
					j = others[(k*57+m*31)%len(others)]
				}
				u.Fns[3].Code[k] = j
				want := modelGood(u)
				if got := mid.Good(u); got != want {
					t.Fatalf("P10.1: %v as %v: Good %v, want %v", i, j, got, want)
				}
				tally[want]++
			}
		}
	}
	if tally[true] < 500 || tally[false] < 20000 {
		t.Errorf("only %v", tally)
	}
}
