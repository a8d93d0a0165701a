package span_test

import (
	"reflect"
	"slices"
	"strconv"
	"testing"

	"hauberk/api"
	"hauberk/chance"
	"hauberk/check"
	"hauberk/fat"
	"hauberk/harden"
	"hauberk/ins"
	"hauberk/lower"
	"hauberk/opt"
	"hauberk/parse"
	"hauberk/samples"
	"hauberk/span"
	"hauberk/texts"
)

// made is a random unit of either kind.
func made(seed int) (api.Unit, []byte) {
	return []func(int) (api.Unit, []byte){samples.Unit, samples.Loops}[seed%2](seed)
}

// hardened is the unit of a random program, made better or not, and an input; none, if the text is too long or too deep.
func hardened(t *testing.T, seed int) (api.Unit, []byte) {
	t.Helper()
	text, input := []func(int) (string, []byte){texts.Random, texts.Straight}[seed/4%2](seed)
	p, at, e := parse.Parse(text)
	if e == api.ErrDeep || e == api.ErrFull {
		return api.Unit{}, nil
	}
	if e == api.OK {
		p, at, e = check.Check(p)
	}
	if e != api.OK {
		t.Fatalf("%s: %d at %d", text, e, at)
	}
	u := harden.Unit(lower.Unit(p))
	if seed/8%2 == 0 {
		u = opt.Unit(u)
	}
	return u, input
}

// P15.1: the functions of random units.
func TestUnits(t *testing.T) {
	t.Parallel()
	for seed := range 3000 {
		u, _ := made(seed)
		for _, f := range u.Fns {
			asModel(t, "seed "+strconv.Itoa(seed)+", "+f.Name, f)
		}
	}
}

// P15.1: the functions of random programs, but for those so long that the model has too much to do.
func TestPrograms(t *testing.T) {
	t.Parallel()
	held := 0
	for seed := range 400 {
		u, _ := hardened(t, seed)
		for _, f := range u.Fns {
			if len(f.Code) <= 80 {
				held++
				asModel(t, "seed "+strconv.Itoa(seed)+", "+f.Name, f)
			}
		}
	}
	if held < 150 {
		t.Errorf("only %d functions", held)
	}
}

// shared is a function in which registers share places: each one, in an order, has the first place of which none has a span that meets its own.
func shared(f api.Fn, order []int) (api.Fn, int) {
	spans := span.Spans(f)
	var places [][]int
	at := make([]int, len(f.Kinds))
	for _, r := range order {
		k := slices.IndexFunc(places, func(there []int) bool {
			return !slices.ContainsFunc(there, func(other int) bool { return span.Meet(spans[r], spans[other]) })
		})
		if k < 0 {
			k = len(places)
			places = append(places, nil)
		}
		places[k] = append(places[k], r)
		at[r] = k
	}
	return renamed(f, at), len(places)
}

// renamed is a function with other registers in place of its own.
func renamed(f api.Fn, as []int) api.Fn {
	all := func(l []int) []int {
		var to []int
		for _, r := range l {
			to = append(to, as[r])
		}
		return to
	}
	f.Params = all(f.Params)
	f.Code = slices.Clone(f.Code)
	for k := range f.Code {
		i := &f.Code[k]
		parts, _ := ins.PartsOf(i.Op)
		for _, one := range []struct {
			register *int
			is       bool
		}{{&i.Dst, parts.Dst}, {&i.A, parts.A}, {&i.B, parts.B}} {
			if one.is {
				*one.register = as[*one.register]
			}
		}
		i.Args, i.Outs = all(i.Args), all(i.Outs)
	}
	return f
}

// sharing runs a unit whose registers share places, and asks that it does what the unit does. It answers how many places there are less than registers.
func sharing(t *testing.T, what string, u api.Unit, input []byte, s *chance.Source, fuels ...int) int {
	t.Helper()
	less := 0
	b := api.Unit{Tops: u.Tops}
	for _, f := range u.Fns {
		g, places := shared(f, s.Order(len(f.Kinds)))
		less += len(f.Kinds) - places
		b.Fns = append(b.Fns, g)
	}
	if !fat.Good(b) {
		t.Fatalf("P15.2: %s: %v of %v isn't well formed", what, b, u)
	}
	for _, fuel := range fuels {
		if want, got := fat.Run(u, input, fuel), fat.Run(b, input, fuel); !samples.Same(want, got) {
			t.Fatalf("P15.2: %s, with %d of fuel: %v, want %v:\n%v\n%v", what, fuel, got, want, u, b)
		}
	}
	return less
}

// P15.2: registers whose spans don't meet share places in any way: all runs are the same.
func TestShare(t *testing.T) {
	t.Parallel()
	s := chance.New(15)
	less := 0
	for seed := range 4000 {
		u, input := made(seed)
		for range 3 {
			less += sharing(t, "seed "+strconv.Itoa(seed), u, input, &s, 7, 40, 400)
		}
	}
	for seed := range 400 {
		u, input := hardened(t, seed)
		less += sharing(t, "program "+strconv.Itoa(seed), u, input, &s, 50, 3000)
	}
	if less < 10000 {
		t.Errorf("P15.2: only %d places less", less)
	}
}

// P15.1: in the order in which spans begin registers need just as many places as spans stand at one instruction.
func TestPlaces(t *testing.T) {
	t.Parallel()
	for seed := range 300 {
		u, _ := made(seed)
		if seed%3 == 0 {
			u, _ = hardened(t, seed)
		}
		for _, f := range u.Fns {
			spans := span.Spans(f)
			order := make([]int, 0, len(spans))
			for r, s := range spans {
				if s.From <= s.To {
					order = append(order, r)
				}
			}
			slices.SortFunc(order, func(a, b int) int { return spans[a].From - spans[b].From })
			if _, places := shared(f, order); places != span.Most(spans) {
				t.Fatalf("P15.1: seed %d, %s: Most: %d, want %d", seed, f.Name, span.Most(spans), places)
			}
		}
	}
}

// P15.3, P7 (R6, R8): what is handed in stays, spare room, too, and the answers are the same each time.
func TestStays(t *testing.T) {
	t.Parallel()
	for seed := range 1000 {
		random, _ := made(seed)
		u, again := samples.Roomy(random), samples.Roomy(random)
		for _, f := range u.Fns {
			if !reflect.DeepEqual(span.Live(f), span.Live(f)) || !reflect.DeepEqual(span.Spans(f), span.Spans(f)) {
				t.Fatalf("P7 (R8): seed %d: not the same twice", seed)
			}
		}
		if !reflect.DeepEqual(samples.Bare(u), samples.Bare(again)) {
			t.Fatalf("P15.3: seed %d: what was handed in is another", seed)
		}
	}
	l := samples.Filled([]span.Span{{From: 5, To: 9}, {From: 1, To: 4}, none()}, span.Span{From: 7, To: 7})
	before := slices.Clone(l[:cap(l)])
	if n := span.Most(l); n != 1 || !slices.Equal(l[:cap(l)], before) {
		t.Errorf("P15.3: Most: %d, of %v", n, l[:cap(l)])
	}
}

// P15.3, P7 (R6): what is answered is new memory, no two lists of it the same, spare room too; nothing is kept.
func TestNew(t *testing.T) {
	t.Parallel()
	for seed := range 500 {
		random, _ := made(seed)
		u := samples.Roomy(random)
		for _, f := range u.Fns {
			live, spans := span.Live(f), span.Spans(f)
			for k := range live {
				mine := live[k]
				fill(mine, 99)
				live[k] = span.Live(f)[k]
				if !sameLists(live, span.Live(f)) {
					t.Fatalf("P15.3: seed %d: instruction %d shares a list", seed, k)
				}
			}
			fill(live, []int{99})
			fill(spans, span.Span{From: 99, To: 99})
			asModel(t, "seed "+strconv.Itoa(seed)+", another time", f)
		}
		if !reflect.DeepEqual(samples.Bare(u), samples.Bare(samples.Roomy(random))) {
			t.Fatalf("P15.3: seed %d: memory is shared", seed)
		}
	}
}

// fill writes to all of a list, and to its spare room.
func fill[T any](l []T, with T) {
	l = l[:cap(l)]
	for k := range l {
		l[k] = with
	}
}

// P6: of functions that aren't well formed nothing is promised, but nothing panics, and each call ends.
func TestWild(t *testing.T) {
	t.Parallel()
	all := func(u api.Unit) {
		for _, f := range u.Fns {
			span.Live(f)
			span.Most(span.Spans(f))
		}
	}
	for seed := range 20000 {
		all(samples.Wild(seed))
		u, _ := made(seed)
		s := chance.New(seed)
		samples.Spoil(&s, &u)
		all(u)
	}
	for _, f := range []api.Fn{
		{}, {Kinds: []int{1}}, {Params: []int{0}}, {Params: []int{-1}, Kinds: []int{1}, Code: []api.Ins{ins.Ret()}}, {Params: []int{1 << 40}, Kinds: []int{1}, Code: []api.Ins{ins.Ret()}}, {Code: []api.Ins{ins.Ret(0)}}, {Kinds: []int{1}, Code: []api.Ins{ins.Ret(-1)}}, {Kinds: []int{1}, Code: []api.Ins{ins.Ret(1)}},
		{Kinds: []int{1}, Code: []api.Ins{ins.Put(0)}}, {Kinds: []int{1}, Code: []api.Ins{ins.If(0, 0)}}, {Code: []api.Ins{ins.Jump(-1)}}, {Code: []api.Ins{ins.Jump(1)}}, {Code: []api.Ins{ins.Jump(1 << 62)}}, {Code: []api.Ins{{Op: 99}}}, {Kinds: []int{1}, Code: []api.Ins{{Op: 99, Args: []int{5}}, ins.Ret()}},
	} {
		all(api.Unit{Fns: []api.Fn{f}})
	}
}

// P6: long functions, be they straight, or full of ways forth and back.
func TestLong(t *testing.T) {
	t.Parallel()
	const length = 3000
	for _, made := range []func(k int) api.Ins{
		func(k int) api.Ins { return ins.Op(k, k/2, k/3, 1+k%27) },
		func(k int) api.Ins { return ins.Move(length-1-k, k) },
		func(k int) api.Ins { return ins.Jump((k*7919 + 1) % length) },
		func(k int) api.Ins { return []api.Ins{ins.Get(k), ins.If(max(k-1, 0), length)}[k%2] },
		func(k int) api.Ins { return []api.Ins{ins.Get(k), ins.If(max(k-1, 0), min(k+3, length))}[k%2] },
		func(k int) api.Ins { return []api.Ins{ins.Get(k), ins.If(max(k-1, 0), k*7919%length)}[k%2] },
		func(k int) api.Ins { return []api.Ins{ins.Put(k), ins.If(k, k*7919%length)}[k%2] },
		func(k int) api.Ins { return []api.Ins{ins.Get(k), ins.If(length-1-k, length-1-k)}[k*2/length] },
	} {
		f := fn(length, nil)
		for k := range length {
			f.Code = append(f.Code, made(k))
		}
		f.Code = append(f.Code, ins.Ret(0))
		if live := span.Live(f); !slices.Equal(span.Spans(f), modelSpansOf(f, live)) {
			t.Errorf("P15.1: %v", f.Code[:9])
		}
	}
	// So many registers in so many instructions are less than their product in time and room.
	f := fn(api.MaxWords, nil)
	for k := range api.MaxWords / 2 {
		f.Code = append(f.Code, ins.Get(k), ins.If(max(k-5, 0), 2*k+2))
	}
	f.Code = append(f.Code, ins.Ret(api.MaxWords-1))
	spans := span.Spans(f)
	if spans[api.MaxWords-1] != (span.Span{From: 0, To: api.MaxWords}) || spans[100] != (span.Span{From: 200, To: 211}) || span.Most(spans) > 20 {
		t.Errorf("P15.1: %v, %v, %d", spans[api.MaxWords-1], spans[100], span.Most(spans))
	}
}

// modelSpansOf takes what is live as told, and goes once through all of it.
func modelSpansOf(f api.Fn, live [][]int) []span.Span {
	l := slices.Repeat([]span.Span{none()}, len(f.Kinds))
	for at, i := range f.Code {
		in := live[at]
		for _, r := range append([]int{i.Dst}, i.Outs...) {
			if writes(i, r) {
				in = append(slices.Clone(in), r)
			}
		}
		for _, r := range in {
			if l[r].To < 0 {
				l[r].From = at
			}
			l[r].To = at
		}
	}
	return l
}
