package opt_test

import (
	"reflect"
	"slices"
	"strconv"
	"testing"

	"hauberk/api"
	"hauberk/chance"
	"hauberk/check"
	"hauberk/fat"
	"hauberk/harden"
	"hauberk/ins"
	"hauberk/lower"
	"hauberk/opt"
	"hauberk/parse"
	"hauberk/samples"
	"hauberk/texts"
)

// all is what so many random units do, by how they stop.
func all(t *testing.T, made func(int) (api.Unit, []byte), count int, fuels ...int) map[int]int {
	t.Helper()
	tally := map[int]int{}
	for seed := range count {
		u, input := made(seed)
		b := better(t, u)
		for _, fuel := range fuels {
			tally[as(t, "seed "+strconv.Itoa(seed), u, b, input, fuel).State]++
		}
	}
	return tally
}

// P14.1: random units do as they did, with little fuel and with much; they stop in all ways in which one may.
func TestUnits(t *testing.T) {
	t.Parallel()
	for what, made := range map[string]func(int) (api.Unit, []byte){"units": samples.Unit, "loops": samples.Loops} {
		tally := all(t, made, 4000, 5, 23, 60, 400)
		for _, way := range []int{api.Running, api.Exit, api.Trap, api.NoRoom, api.Fault} {
			if tally[way] < 20 {
				t.Errorf("%s: only %d stop by %v", what, tally[way], way)
			}
		}
	}
}

// P14.1: random units with each fuel up to so much.
func TestFuels(t *testing.T) {
	t.Parallel()
	var fuels []int
	for fuel := range 60 {
		fuels = append(fuels, fuel)
	}
	all(t, samples.Unit, 800, fuels...)
	all(t, samples.Loops, 800, fuels...)
}

// P14.1: each function alone, in its place in a unit that isn't better; it is the same one in a unit that is.
func TestOne(t *testing.T) {
	t.Parallel()
	for seed := range 1500 {
		u, input := samples.Unit(seed)
		whole := opt.Unit(u)
		for k, f := range u.Fns {
			b := api.Unit{Tops: u.Tops, Fns: slices.Clone(u.Fns)}
			b.Fns[k] = opt.Fn(f)
			if !reflect.DeepEqual(b.Fns[k], whole.Fns[k]) {
				t.Fatalf("P14.1: seed %d: %v, in a unit %v", seed, b.Fns[k], whole.Fns[k])
			}
			as(t, "seed "+strconv.Itoa(seed)+", "+f.Name, u, b, input, 300)
		}
	}
}

// P14.1: what is better is made better once more.
func TestAgain(t *testing.T) {
	t.Parallel()
	for seed := range 2000 {
		u, input := samples.Loops(seed)
		as(t, "seed "+strconv.Itoa(seed), u, better(t, better(t, u)), input, 300)
	}
}

// hardened is the unit of a text; none, if the text is too long or too deep.
func hardened(t *testing.T, text string) (api.Unit, bool) {
	t.Helper()
	p, at, e := parse.Parse(text)
	if e == api.ErrDeep || e == api.ErrFull {
		return api.Unit{}, false
	}
	if e == api.OK {
		p, at, e = check.Check(p)
	}
	if e != api.OK {
		t.Fatalf("%s: %d at %d", text, e, at)
	}
	return harden.Unit(lower.Unit(p)), true
}

// P14.1: the hardened units of random programs; what they do needs far less: of three steps one is left at most, and of three checks, too.
func TestPrograms(t *testing.T) {
	t.Parallel()
	var steps, checks [2]int
	for seed := range 800 {
		text, input := []func(int) (string, []byte){texts.Random, texts.Straight}[seed/4%2](seed)
		u, ok := hardened(t, text)
		if !ok {
			continue
		}
		b := better(t, u)
		as(t, text, u, b, input, 150)
		if r := as(t, text, u, b, input, 4000); r.State != api.Running {
			less := fat.Run(b, input, 4000)
			steps[0], steps[1] = steps[0]+r.Steps, steps[1]+less.Steps
			checks[0], checks[1] = checks[0]+r.Checks, checks[1]+less.Checks
		}
	}
	if steps[1]*3 > steps[0] || checks[1]*3 > checks[0] {
		t.Errorf("P14.2: %v steps, %v checks", steps, checks)
	}
}

// P6: of functions that aren't well formed nothing is promised, but nothing panics, and each call ends.
func TestWild(t *testing.T) {
	t.Parallel()
	for seed := range 6000 {
		u := samples.Wild(seed)
		fat.Run(opt.Unit(u), nil, 50)
	}
	for seed := range 6000 {
		u, input := []func(int) (api.Unit, []byte){samples.Unit, samples.Loops}[seed%2](seed)
		s := chance.New(seed)
		samples.Spoil(&s, &u)
		fat.Run(opt.Unit(u), input, 50)
	}
	opt.Fn(api.Fn{})
}

// P6: long functions, be they straight, or full of ways forth and back.
func TestLong(t *testing.T) {
	t.Parallel()
	const length = 3000
	for what, made := range map[string]func(k int) api.Ins{
		"straight":       func(k int) api.Ins { return ins.Op(k, k/2, k/3, 1+k%27) },
		"of constants":   func(k int) api.Ins { return ins.Const(k%3, uint64(k%2)) },
		"of jumps":       func(k int) api.Ins { return ins.Jump((k*7919 + 1) % length) },
		"to the end":     func(k int) api.Ins { return []api.Ins{ins.Get(k), ins.If(max(k-1, 0), length)}[k%2] },
		"over each":      func(k int) api.Ins { return []api.Ins{ins.Get(k), ins.If(max(k-1, 0), min(k+3, length))}[k%2] },
		"back":           func(k int) api.Ins { return []api.Ins{ins.Get(k), ins.If(max(k-1, 0), k*7919%length)}[k%2] },
		"loops in loops": func(k int) api.Ins { return []api.Ins{ins.Get(k), ins.If(length-1-k, length-1-k)}[k*2/length] },
		"of checks": func(k int) api.Ins {
			return []api.Ins{ins.Get(k), ins.Check(8, k-1, 5, 6, 7, 8), ins.Store(k-2, 9, 8)}[k%3]
		},
	} {
		f := api.Fn{Name: "main", Slots: []int{8}}
		for k := range length {
			f.Kinds = append(f.Kinds, 1)
			f.Code = append(f.Code, made(k))
		}
		f.Code = append(f.Code, ins.Ret(0))
		u := units(f)
		as(t, what, u, better(t, u), []byte("abc"), 5000)
	}
}
