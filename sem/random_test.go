package sem_test

import (
	"math/rand"
	"reflect"
	"testing"

	"hauberk/api"
	"hauberk/check"
	"hauberk/parse"
	"hauberk/sem"
	"hauberk/texts"
)

// someProgram is one at random, and its input; false, if it became too long or too deep.
func someProgram(t *testing.T, seed int) (api.Program, []byte, string, bool) {
	t.Helper()
	text, input := texts.Random(seed)
	p, at, e := parse.Parse(text)
	if e == api.ErrDeep || e == api.ErrFull {
		return p, nil, "", false
	}
	if e != api.OK {
		t.Fatalf("%d: %s: %d at %d", seed, text, e, at)
	}
	p, at, e = check.Check(p)
	if e != api.OK {
		t.Fatalf("%d: %s: %d at %d", seed, text, e, at)
	}
	return p, input, text, true
}

// P9.1: random programs do what the model does, with as much fuel; they stop in all ways in which one may.
func TestModel(t *testing.T) {
	tally, done := map[[2]int]int{}, map[string]int{}
	for seed := range 5000 {
		p, input, text, ok := someProgram(t, seed)
		if !ok {
			continue
		}
		fuel := 3000
		if seed%8 == 0 {
			fuel = rand.New(rand.NewSource(int64(seed))).Intn(200)
		}
		got, want := sem.Run(p, input, fuel), modelRun(p, input, fuel, done)
		if !same(got, want) {
			t.Fatalf("P9.1: seed %d: %s, with %q and %d of fuel: %v, want %v", seed, text, input, fuel, got, want)
		}
		tally[[2]int{got.State, int(got.Why)}]++
	}
	for _, way := range [][2]int{{api.Running, 0}, {api.Exit, 0}, {api.NoRoom, 0}, {api.Stuck, int(api.ErrGone)}, {api.Stuck, int(api.ErrBounds)}, {api.Stuck, int(api.ErrNull)}, {api.Stuck, int(api.ErrFree)}} {
		if tally[way] < 10 {
			t.Errorf("only %d programs stop by %v", tally[way], way)
		}
	}
	for what, least := range map[string]int{"load": 1000, "store": 1000, "call": 1000, "again": 1000, "malloc": 1000, "free": 1000, "getchar": 1000, "another": 10} {
		if done[what] < least {
			t.Errorf("%s: only %d times", what, done[what])
		}
	}
}

// P9.1, P9.2: random programs with each fuel up to what they need, or to so much.
func TestLess(t *testing.T) {
	for seed := range 300 {
		p, input, text, ok := someProgram(t, seed)
		if !ok {
			continue
		}
		r := all(t, text, p, input, 200)
		if want := modelRun(p, input, 200, map[string]int{}); !same(r, want) {
			t.Fatalf("P9.1: seed %d: %s, with %q: %v, want %v", seed, text, input, r, want)
		}
	}
}

// P9.3, P7 (R6, R8): of random programs what is handed in stays, and the answer is the same each time.
func TestStays(t *testing.T) {
	for seed := range 500 {
		p, input, text, ok := someProgram(t, seed)
		if !ok {
			continue
		}
		again, same1, _, _ := someProgram(t, seed)
		a, b := sem.Run(p, input, 1000), sem.Run(p, input, 1000)
		if !same(a, b) {
			t.Fatalf("P7 (R8): seed %d: %s: %v, then %v", seed, text, a, b)
		}
		if !reflect.DeepEqual(p, again) || string(input) != string(same1) {
			t.Fatalf("P9.3: seed %d: %s: what was handed in is another", seed, text)
		}
	}
}

func pick[T any](r *rand.Rand, l ...T) T { return l[r.Intn(len(l))] }

// spoil makes something of a tree another thing.
func spoil(r *rand.Rand, p *api.Program) {
	f := &p.Funcs[r.Intn(len(p.Funcs))]
	s := &f.Body
	for len(s.Kids) > 0 && r.Intn(5) > 0 {
		s = &s.Kids[r.Intn(len(s.Kids))]
	}
	if len(s.Exprs) == 0 || r.Intn(5) == 0 {
		switch r.Intn(5) {
		case 0:
			s.Kind = r.Intn(10)
		case 1:
			s.Kids = nil
		case 2:
			s.Exprs = nil
		case 3:
			s.Var = api.Var{Name: "x", Len: int(r.Uint64())}
		case 4:
			f.Params = f.Params[len(f.Params)/2:]
		}
		return
	}
	x := &s.Exprs[r.Intn(len(s.Exprs))]
	for len(x.Kids) > 0 && r.Intn(4) > 0 {
		x = &x.Kids[r.Intn(len(x.Kids))]
	}
	switch r.Intn(6) {
	case 0:
		x.Kind = r.Intn(13)
	case 1:
		x.Op = pick(r, "", "*", "&", "-", "&&", "==", "<<", "?")
	case 2:
		x.Kids = nil
	case 3:
		x.Type = pick(r, api.Type{}, api.Type{Base: api.Char}, api.Type{Base: api.Long}, api.Type{Base: api.Record, Struct: "s"}, api.Type{Base: api.Record, Struct: "t", Stars: 2}, api.Type{Base: -1, Stars: -1})
	case 4:
		x.Name = pick(r, "", "main", "$0", "gi", "gs", "putchar")
	case 5:
		x.Num = r.Uint64()
	}
}

// P6: trees that no text has are nothing's promise, but nothing panics.
func TestSpoilt(t *testing.T) {
	for seed := range 3000 {
		p, input, _, ok := someProgram(t, seed)
		if !ok {
			continue
		}
		r := rand.New(rand.NewSource(int64(seed)))
		for range 1 + r.Intn(3) {
			spoil(r, &p)
		}
		sem.Run(p, input, 500)
	}
}
