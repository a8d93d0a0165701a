package samples_test

import (
	"math"
	"reflect"
	"testing"

	"hauberk/api"
	"hauberk/fat"
	"hauberk/mid"
	"hauberk/samples"
)

// All units are well formed; of one seed it is always the same, of no two the same.
func TestUnit(t *testing.T) {
	differ(t, samples.Unit, fat.Good)
	differ(t, samples.Loops, fat.Good)
	differ(t, func(seed int) (api.Unit, []byte) { return samples.Blocks(seed, 1, 4, 8) }, mid.Good)
	differ(t, func(seed int) (api.Unit, []byte) { return samples.Blocks(seed, 8) }, mid.Good)
}

func differ(t *testing.T, made func(int) (api.Unit, []byte), good func(api.Unit) bool) {
	t.Helper()
	var units []api.Unit
	for _, seed := range []int{0, 1, 2, 3, 4, 5, 1000, -1, math.MinInt, math.MaxInt} {
		u, input := made(seed)
		again, same := made(seed)
		if !good(u) || !reflect.DeepEqual(u, again) || string(input) != string(same) {
			t.Errorf("seed %d: %v, then %v", seed, u, again)
		}
		for _, other := range units {
			if reflect.DeepEqual(u, other) {
				t.Errorf("seed %d: as of another", seed)
			}
		}
		units = append(units, u)
	}
}

// A roomy unit is the same one; what is done to a list's spare room, or through it, is seen in a bare one.
func TestRoom(t *testing.T) {
	for seed := range 20 {
		u, _ := samples.Unit(seed)
		a, b := samples.Roomy(u), samples.Roomy(u)
		if !fat.Good(a) || !reflect.DeepEqual(samples.Bare(a), samples.Bare(b)) {
			t.Fatalf("seed %d: %v", seed, a)
		}
		for what, change := range map[string]func(){
			"functions":    func() { _ = append(a.Fns, api.Fn{}) },
			"variables":    func() { _ = append(a.Tops, api.Top{}) },
			"Params":       func() { _ = append(a.Fns[0].Params, 1) },
			"kinds":        func() { _ = append(a.Fns[0].Kinds, 1) },
			"slots":        func() { _ = append(a.Fns[0].Slots, 1) },
			"code":         func() { _ = append(a.Fns[0].Code, api.Ins{}) },
			"Args":         func() { _ = append(a.Fns[0].Code[0].Args, 1) },
			"Outs":         func() { _ = append(a.Fns[0].Code[0].Outs, 1) },
			"a variable":   func() { a.Tops[0].Size++ },
			"an operation": func() { a.Fns[0].Code[0].Op++ },
		} {
			a = samples.Roomy(u)
			change()
			if reflect.DeepEqual(samples.Bare(a), samples.Bare(b)) {
				t.Errorf("seed %d: another one's %s aren't seen", seed, what)
			}
		}
	}
}

// Fuels tells what a run does that doesn't go on as it began.
func TestFuels(t *testing.T) {
	run := func(fuel int) api.Result {
		out := []byte("abcdefghij")
		if fuel < 10 {
			return api.Result{Steps: max(fuel, 0), Out: out[:max(fuel, 0)]}
		}
		return api.Result{State: api.Exit, Code: 3, Steps: 10, Out: out}
	}
	for _, limit := range []int{0, 5, 10, 20} {
		if whole, wrong := samples.Fuels(run, limit); wrong != "" || !samples.Same(whole, run(limit)) {
			t.Errorf("%d: %v, %s", limit, whole, wrong)
		}
	}
	for what, change := range map[string]func(fuel int, r *api.Result){
		"a step less":        func(fuel int, r *api.Result) { r.Steps -= fuel / 7 },
		"other bytes":        func(fuel int, r *api.Result) { r.Out = []byte(string(rune('a'+fuel%7)) + string(r.Out)) },
		"no more bytes":      func(fuel int, r *api.Result) { r.Out = r.Out[:min(len(r.Out), 10-fuel%10)] },
		"a stop too soon":    func(fuel int, r *api.Result) { r.State = fuel / 7 },
		"a code":             func(fuel int, r *api.Result) { r.Code = 3 },
		"more steps":         func(fuel int, r *api.Result) { r.Steps++ },
		"with more, another": func(fuel int, r *api.Result) { r.Code = byte(fuel % 3) },
	} {
		if _, wrong := samples.Fuels(func(fuel int) api.Result { r := run(fuel); change(fuel, &r); return r }, 20); wrong == "" {
			t.Errorf("%s: isn't told", what)
		}
	}
}
