package fat_test

import (
	"reflect"
	"testing"

	"hauberk/api"
	"hauberk/chance"
	"hauberk/fat"
	"hauberk/ins"
	"hauberk/samples"
)

// P12.1: random units that are well formed do what the model does, with as much fuel; they stop in all ways in which one may.
func TestModel(t *testing.T) {
	tally, done := map[int]int{}, map[string]int{}
	for seed := range 20000 {
		u, input := samples.Unit(seed)
		if !fat.Good(u) || !modelGood(u) {
			t.Fatalf("P12.1: seed %d: Good %v, the model %v: %v", seed, fat.Good(u), modelGood(u), u)
		}
		fuel := 500
		if seed%8 == 0 {
			fuel = seed / 8 % 60
		}
		got, want := fat.Run(u, input, fuel), modelRun(u, input, fuel, done)
		if !samples.Same(got, want) {
			t.Fatalf("P12.1: seed %d: %v, with %q and %d of fuel: %v, want %v", seed, u, input, fuel, got, want)
		}
		tally[got.State]++
	}
	for _, way := range []int{api.Running, api.Exit, api.Trap, api.NoRoom, api.Fault} {
		if tally[way] < 200 {
			t.Errorf("only %d units stop by %v", tally[way], way)
		}
	}
	for _, what := range []string{"call", "check", "load", "store", "read", "malloc", "free", "get", "clear"} {
		if done[what] < 1000 {
			t.Errorf("%s: only %d times", what, done[what])
		}
	}
}

// P12.1, P12.2: random units with each fuel up to what they need, or to so much.
func TestLess(t *testing.T) {
	for seed := range 2000 {
		u, input := samples.Unit(seed)
		r := all(t, u, input, 60)
		if want := modelRun(u, input, 60, map[string]int{}); !samples.Same(r, want) {
			t.Fatalf("P12.1: seed %d: %v, with %q: %v, want %v", seed, u, input, r, want)
		}
	}
}

// P12.1, P6: random units that were spoilt: Good is what the model says, Run is a Fault, and nothing else, of those that aren't well formed, and what the model does of the others.
func TestSpoilt(t *testing.T) {
	tally := map[bool]int{}
	for seed := range 20000 {
		u, input := samples.Unit(seed)
		s := chance.New(seed)
		for range 1 + s.Below(2) {
			samples.Spoil(&s, &u)
		}
		want := modelGood(u)
		if got := fat.Good(u); got != want {
			t.Fatalf("P12.1: seed %d: Good %v, the model %v: %v", seed, got, want, u)
		}
		result := api.Result{State: api.Fault}
		if want {
			result = modelRun(u, input, 200, map[string]int{})
		}
		if got := fat.Run(u, input, 200); !samples.Same(got, result) {
			t.Fatalf("P12.1: seed %d: %v: %v, want %v", seed, u, got, result)
		}
		tally[want]++
	}
	if tally[true] < 2000 || tally[false] < 5000 {
		t.Errorf("only %v", tally)
	}
}

// P6: units of anything are asked, too.
func TestWild(t *testing.T) {
	for seed := range 30000 {
		u := samples.Wild(seed)
		if got := fat.Good(u); got != modelGood(u) {
			t.Fatalf("P12.1: seed %d: Good %v: %v", seed, got, u)
		}
		fat.Run(u, []byte("abc"), 100)
	}
}

// P12.3, P7 (R6, R8): of random units what is handed in stays, spare room, too, and the answers are the same each time.
func TestStays(t *testing.T) {
	for seed := range 2000 {
		made, bytes := samples.Unit(seed)
		u, again, input := samples.Roomy(made), samples.Roomy(made), samples.Filled(bytes, 'x')
		good := fat.Good(u)
		a := fat.Run(u, input, 300)
		if b := fat.Run(u, input, 300); !samples.Same(a, b) || good != fat.Good(u) {
			t.Fatalf("P7 (R8): seed %d: %v, then %v", seed, a, b)
		}
		if !reflect.DeepEqual(samples.Bare(u), samples.Bare(again)) || string(input[:cap(input)]) != string(bytes)+"xxx" {
			t.Fatalf("P12.3: seed %d: what was handed in is another", seed)
		}
	}
}

// P12.3, P7 (R6): what is answered is new memory, and nothing is kept.
func TestNew(t *testing.T) {
	u := unit(ins.Get(0), ins.Put(0), ins.Put(0), ins.Get(0), ins.Put(0), ins.Ret(0))
	room := []byte("abcdef")
	input := room[:2]
	a, b := fat.Run(u, input, plenty), fat.Run(u, input, plenty)
	for k := range a.Out[:cap(a.Out)] {
		a.Out[:cap(a.Out)][k] = 'X'
	}
	if string(b.Out) != "aab" || string(room) != "abcdef" {
		t.Errorf("P12.3: an answer's memory is shared: %q, %q", b.Out, room)
	}
	copy(room, "zzzzzz")
	u.Fns[0].Code[0] = ins.Const(0, 'c')
	if string(b.Out) != "aab" {
		t.Error("P12.3: what was handed in is kept")
	}
	if r := fat.Run(u, input, plenty); string(r.Out) != "ccz" {
		t.Errorf("P12.3: what was handed in is kept: %q", r.Out)
	}
}
