package mid_test

import (
	"math/rand"
	"reflect"
	"testing"

	"hauberk/api"
	"hauberk/mid"
)

func someInput(seed int64) []byte {
	r := rand.New(rand.NewSource(seed))
	input := make([]byte, r.Intn(5))
	for k := range input {
		input[k] = byte(r.Intn(256))
	}
	return input
}

// P10.1: random units that are well formed do what the model does, with as much fuel; they stop in all ways in which one may.
func TestModel(t *testing.T) {
	tally, done := map[[2]int]int{}, map[string]int{}
	for seed := range int64(20000) {
		u, input := made(seed), someInput(seed)
		if !mid.Good(u) || !modelGood(u) {
			t.Fatalf("P10.1: seed %d: Good %v, the model %v: %v", seed, mid.Good(u), modelGood(u), u)
		}
		fuel := 500
		if seed%8 == 0 {
			fuel = rand.New(rand.NewSource(seed)).Intn(60)
		}
		got, want := mid.Run(u, input, fuel), modelRun(u, input, fuel, done)
		if !same(got, want) {
			t.Fatalf("P10.1: seed %d: %v, with %q and %d of fuel: %v, want %v", seed, u, input, fuel, got, want)
		}
		tally[[2]int{got.State, int(got.Why)}]++
	}
	for _, way := range [][2]int{{api.Running, 0}, {api.Exit, 0}, {api.NoRoom, 0}, {api.Stuck, int(api.ErrGone)}, {api.Stuck, int(api.ErrBounds)}, {api.Stuck, int(api.ErrNull)}, {api.Stuck, int(api.ErrFree)}} {
		if tally[way] < 50 {
			t.Errorf("only %d units stop by %v", tally[way], way)
		}
	}
	for _, what := range []string{"call", "load of a number", "load of a pointer", "store", "malloc", "free", "get", "clear"} {
		if done[what] < 300 {
			t.Errorf("%s: only %d times", what, done[what])
		}
	}
}

// P10.1, P10.2: random units with each fuel up to what they need, or to so much.
func TestLess(t *testing.T) {
	for seed := range int64(2000) {
		u, input := made(seed), someInput(seed)
		r := all(t, u, input, 60)
		if want := modelRun(u, input, 60, map[string]int{}); !same(r, want) {
			t.Fatalf("P10.1: seed %d: %v, with %q: %v, want %v", seed, u, input, r, want)
		}
	}
}

// some is a place in a list; or its end, where the list is empty.
func some[T any](r *rand.Rand, l []T) int { return r.Intn(max(len(l), 1)) }

// spoil makes something of a unit another thing, mostly a wrong one.
func spoil(r *rand.Rand, u *api.Unit) {
	f := &u.Fns[some(r, u.Fns)]
	switch r.Intn(14) {
	case 0:
		f.Name = pick(r, "", "main", "f0", "f1")
	case 1:
		f.Params = append(f.Params, r.Intn(10)-1)
	case 2:
		f.Kinds = append(f.Kinds[:some(r, f.Kinds)], r.Intn(4))
	case 3:
		f.Kinds = f.Kinds[:some(r, f.Kinds)]
	case 4:
		f.Slots = append(f.Slots, pick(r, 0, 1, -1, api.MaxFrame, api.MaxFrame+1, int(r.Uint64())))
	case 5:
		f.Slots = f.Slots[:some(r, f.Slots)]
	case 6:
		f.Code = f.Code[:some(r, f.Code)]
	case 7:
		u.Tops = append(u.Tops, api.Top{Name: pick(r, "", "v0", "main0", "new"), Size: pick(r, 0, api.MaxMemory, api.MaxMemory+1, -1)})
	case 8:
		u.Tops = u.Tops[some(r, u.Tops):]
	case 9:
		u.Fns = append(u.Fns, *f)
	default:
		for k := range f.Code {
			if r.Intn(len(f.Code)) == 0 {
				f.Code[k] = pick(r, changes(f.Code[k])...)
			}
		}
	}
}

// P10.1, P6: random units that were spoilt: Good is what the model says, Run is a Fault, and nothing else, of those that aren't well formed, and what the model does of the others.
func TestSpoilt(t *testing.T) {
	tally := map[bool]int{}
	for seed := range int64(20000) {
		u := made(seed)
		r := rand.New(rand.NewSource(seed))
		for range 1 + r.Intn(2) {
			spoil(r, &u)
		}
		want := modelGood(u)
		if got := mid.Good(u); got != want {
			t.Fatalf("P10.1: seed %d: Good %v, the model %v: %v", seed, got, want, u)
		}
		result := api.Result{State: api.Fault}
		if want {
			result = modelRun(u, nil, 200, map[string]int{})
		}
		if got := mid.Run(u, nil, 200); !same(got, result) {
			t.Fatalf("P10.1: seed %d: %v: %v, want %v", seed, u, got, result)
		}
		tally[want]++
	}
	if tally[true] < 2000 || tally[false] < 5000 {
		t.Errorf("only %v", tally)
	}
}

// wild is a unit of anything.
func wild(r *rand.Rand) api.Unit {
	number := func() int { return pick(r, spoilt[r.Intn(len(spoilt))], r.Intn(4), int(r.Uint64())) }
	numbers := func() []int {
		var l []int
		for range r.Intn(4) {
			l = append(l, number())
		}
		return l
	}
	var u api.Unit
	for range r.Intn(3) {
		u.Tops = append(u.Tops, api.Top{Name: pick(r, "", "v", "w"), Size: number()})
	}
	for range r.Intn(3) {
		f := api.Fn{Name: pick(r, "", "main", "f"), Params: numbers(), Kinds: numbers(), Slots: numbers()}
		for range r.Intn(5) {
			f.Code = append(f.Code, api.Ins{Op: r.Intn(26) - 1, Dst: number(), A: number(), B: number(), N: uint64(number()), Size: number(), Name: pick(r, "", "v", "w", "main", "f"), Args: numbers(), Outs: numbers(), To: number()})
		}
		u.Fns = append(u.Fns, f)
	}
	return u
}

// P6: units of anything are asked, too.
func TestWild(t *testing.T) {
	for seed := range int64(30000) {
		u := wild(rand.New(rand.NewSource(seed)))
		if got := mid.Good(u); got != modelGood(u) {
			t.Fatalf("P10.1: seed %d: Good %v: %v", seed, got, u)
		}
		mid.Run(u, []byte("abc"), 100)
	}
}

// filled puts a mark into the spare room of a list, and answers the list with this room.
func filled[T any](l []T, mark T) []T {
	long := append(append(make([]T, 0, len(l)+3), l...), mark, mark, mark)
	return long[:len(l)]
}

// roomy is a unit whose lists have spare room.
func roomy(u api.Unit) api.Unit {
	for k, f := range u.Fns {
		for j, i := range f.Code {
			f.Code[j].Args, f.Code[j].Outs = filled(i.Args, 77), filled(i.Outs, 77)
		}
		u.Fns[k].Params, u.Fns[k].Kinds, u.Fns[k].Slots, u.Fns[k].Code = filled(f.Params, 77), filled(f.Kinds, 77), filled(f.Slots, 77), filled(f.Code, api.Ins{Op: 77})
	}
	return api.Unit{Tops: filled(u.Tops, api.Top{Name: "spare"}), Fns: filled(u.Fns, api.Fn{Name: "spare"})}
}

// bare is a unit with the spare room of its lists as a part of these.
func bare(u api.Unit) api.Unit {
	u.Tops, u.Fns = u.Tops[:cap(u.Tops)], append([]api.Fn{}, u.Fns[:cap(u.Fns)]...)
	for k, f := range u.Fns {
		f.Params, f.Kinds, f.Slots, f.Code = f.Params[:cap(f.Params)], f.Kinds[:cap(f.Kinds)], f.Slots[:cap(f.Slots)], append([]api.Ins{}, f.Code[:cap(f.Code)]...)
		for j, i := range f.Code {
			f.Code[j].Args, f.Code[j].Outs = i.Args[:cap(i.Args)], i.Outs[:cap(i.Outs)]
		}
		u.Fns[k] = f
	}
	return u
}

// P10.3, P7 (R6, R8): of random units what is handed in stays, spare room, too, and the answers are the same each time.
func TestStays(t *testing.T) {
	for seed := range int64(2000) {
		u, again, input := roomy(made(seed)), roomy(made(seed)), filled(someInput(seed), 'x')
		good := mid.Good(u)
		a := mid.Run(u, input, 300)
		if b := mid.Run(u, input, 300); !same(a, b) || good != mid.Good(u) {
			t.Fatalf("P7 (R8): seed %d: %v, then %v", seed, a, b)
		}
		if !reflect.DeepEqual(bare(u), bare(again)) || string(input[:cap(input)]) != string(someInput(seed))+"xxx" {
			t.Fatalf("P10.3: seed %d: what was handed in is another", seed)
		}
	}
}

// P10.3, P7 (R6): what is answered is new memory, and nothing is kept.
func TestNew(t *testing.T) {
	u := unit(get(0), put(0), put(0), get(0), put(0), ret(0))
	room := []byte("abcdef")
	input := room[:2]
	a, b := mid.Run(u, input, plenty), mid.Run(u, input, plenty)
	for k := range a.Out[:cap(a.Out)] {
		a.Out[:cap(a.Out)][k] = 'X'
	}
	if string(b.Out) != "aab" || string(room) != "abcdef" {
		t.Errorf("P10.3: an answer's memory is shared: %q, %q", b.Out, room)
	}
	copy(room, "zzzzzz")
	u.Fns[0].Code[0] = constant(0, 'c')
	if string(b.Out) != "aab" {
		t.Error("P10.3: what was handed in is kept")
	}
	if r := mid.Run(u, input, plenty); string(r.Out) != "ccz" {
		t.Errorf("P10.3: what was handed in is kept: %q", r.Out)
	}
}
