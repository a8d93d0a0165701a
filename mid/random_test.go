package mid_test

import (
	"reflect"
	"testing"

	"hauberk/api"
	"hauberk/chance"
	"hauberk/mid"
	"hauberk/samples"
)

// made is a unit at random, and its input; its loads and stores are of all widths.
func made(seed int) (api.Unit, []byte) { return samples.Blocks(seed, 1, 4, 8) }

// P10.1: random units that are well formed do what the model does, with as much fuel; they stop in all ways in which one may.
func TestModel(t *testing.T) {
	tally, done := map[[2]int]int{}, map[string]int{}
	for seed := range 20000 {
		u, input := made(seed)
		if !mid.Good(u) || !modelGood(u) {
			t.Fatalf("P10.1: seed %d: Good %v, the model %v: %v", seed, mid.Good(u), modelGood(u), u)
		}
		fuel := 500
		if seed%8 == 0 {
			fuel = seed / 8 % 60
		}
		got, want := mid.Run(u, input, fuel), modelRun(u, input, fuel, done)
		if !samples.Same(got, want) {
			t.Fatalf("P10.1: seed %d: %v, with %q and %d of fuel: %v, want %v", seed, u, input, fuel, got, want)
		}
		tally[[2]int{got.State, int(got.Why)}]++
	}
	for _, way := range [][2]int{{api.Running, 0}, {api.Exit, 0}, {api.NoRoom, 0}, {api.Stuck, int(api.ErrGone)}, {api.Stuck, int(api.ErrBounds)}, {api.Stuck, int(api.ErrNull)}, {api.Stuck, int(api.ErrFree)}} {
		if tally[way] < 50 {
			t.Errorf("only %d units stop by %v", tally[way], way)
		}
	}
	for _, what := range []string{"call", "load of a number", "load of a pointer", "store", "malloc", "free", "get", "clear"} {
		if done[what] < 300 {
			t.Errorf("%s: only %d times", what, done[what])
		}
	}
}

// P10.1, P10.2: random units with each fuel up to what they need, or to so much.
func TestLess(t *testing.T) {
	for seed := range 2000 {
		u, input := made(seed)
		r := all(t, u, input, 60)
		if want := modelRun(u, input, 60, map[string]int{}); !samples.Same(r, want) {
			t.Fatalf("P10.1: seed %d: %v, with %q: %v, want %v", seed, u, input, r, want)
		}
	}
}

// P10.1, P6: random units that were spoilt: Good is what the model says, Run is a Fault, and nothing else, of those that aren't well formed, and what the model does of the others.
func TestSpoilt(t *testing.T) {
	tally := map[bool]int{}
	for seed := range 20000 {
		u, _ := made(seed)
		s := chance.New(seed)
		for range 1 + s.Below(2) {
			samples.Spoil(&s, &u)
		}
		want := modelGood(u)
		if got := mid.Good(u); got != want {
			t.Fatalf("P10.1: seed %d: Good %v, the model %v: %v", seed, got, want, u)
		}
		result := api.Result{State: api.Fault}
		if want {
			result = modelRun(u, nil, 200, map[string]int{})
		}
		if got := mid.Run(u, nil, 200); !samples.Same(got, result) {
			t.Fatalf("P10.1: seed %d: %v: %v, want %v", seed, u, got, result)
		}
		tally[want]++
	}
	if tally[true] < 2000 || tally[false] < 5000 {
		t.Errorf("only %v", tally)
	}
}

// P6: units of anything are asked, too.
func TestWild(t *testing.T) {
	for seed := range 30000 {
		u := samples.Wild(seed)
		if got := mid.Good(u); got != modelGood(u) {
			t.Fatalf("P10.1: seed %d: Good %v: %v", seed, got, u)
		}
		mid.Run(u, []byte("abc"), 100)
	}
}

// P10.3, P7 (R6, R8): of random units what is handed in stays, spare room, too, and the answers are the same each time.
func TestStays(t *testing.T) {
	for seed := range 2000 {
		one, bytes := made(seed)
		u, again, input := samples.Roomy(one), samples.Roomy(one), samples.Filled(bytes, 'x')
		good := mid.Good(u)
		a := mid.Run(u, input, 300)
		if b := mid.Run(u, input, 300); !samples.Same(a, b) || good != mid.Good(u) {
			t.Fatalf("P7 (R8): seed %d: %v, then %v", seed, a, b)
		}
		if !reflect.DeepEqual(samples.Bare(u), samples.Bare(again)) || string(input[:cap(input)]) != string(bytes)+"xxx" {
			t.Fatalf("P10.3: seed %d: what was handed in is another", seed)
		}
	}
}

// P10.3, P7 (R6): what is answered is new memory, and nothing is kept.
func TestNew(t *testing.T) {
	u := unit(get(0), put(0), put(0), get(0), put(0), ret(0))
	room := []byte("abcdef")
	input := room[:2]
	a, b := mid.Run(u, input, plenty), mid.Run(u, input, plenty)
	for k := range a.Out[:cap(a.Out)] {
		a.Out[:cap(a.Out)][k] = 'X'
	}
	if string(b.Out) != "aab" || string(room) != "abcdef" {
		t.Errorf("P10.3: an answer's memory is shared: %q, %q", b.Out, room)
	}
	copy(room, "zzzzzz")
	u.Fns[0].Code[0] = constant(0, 'c')
	if string(b.Out) != "aab" {
		t.Error("P10.3: what was handed in is kept")
	}
	if r := mid.Run(u, input, plenty); string(r.Out) != "ccz" {
		t.Errorf("P10.3: what was handed in is kept: %q", r.Out)
	}
}
