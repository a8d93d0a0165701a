package opt_test

import (
	"reflect"
	"slices"
	"strings"
	"testing"

	"hauberk/api"
	"hauberk/fat"
	"hauberk/ins"
	"hauberk/opt"
	"hauberk/samples"
)

// plenty is more fuel than the runs need that end.
const plenty = 100000

func minus(n uint64) uint64 { return -n }

// fn is a function with twenty registers, and slots of 8 and 20 bytes.
func fn(name string, params []int, l ...api.Ins) api.Fn {
	f := plain(name, params, l...)
	f.Slots = []int{8, 20}
	return f
}

// plain is one without slots.
func plain(name string, params []int, l ...api.Ins) api.Fn {
	f := api.Fn{Name: name, Params: params, Code: l}
	for range 20 {
		f.Kinds = append(f.Kinds, 1)
	}
	return f
}

// units have variables v of 8 bytes, at 4096, and w of 24, at 4112.
func units(l ...api.Fn) api.Unit {
	return api.Unit{Tops: []api.Top{{Name: "v", Size: 8}, {Name: "w", Size: 24}}, Fns: l}
}

// five are the registers of a pointer that is a function's first Params.
func five() []int { return []int{0, 1, 2, 3, 4} }

func checks(size int) api.Ins { return ins.Check(size, 0, 1, 2, 3, 4) }

// shaped asks of a better function what the chapter says outright.
func shaped(t *testing.T, f, g api.Fn) {
	t.Helper()
	if g.Name != f.Name || !slices.Equal(g.Slots, f.Slots) || len(g.Params) != len(f.Params) || len(g.Code) > len(f.Code) {
		t.Fatalf("P14.1: %v of %v", g, f)
	}
	answers := map[int]struct{}{}
	for _, i := range f.Code {
		if i.Op == api.FRet {
			answers[len(i.Args)] = struct{}{}
		}
	}
	for _, i := range g.Code {
		if _, ok := answers[len(i.Args)]; i.Op == api.FRet && !ok {
			t.Fatalf("P14.1: %v answers something else than %v", g, f)
		}
	}
}

// better is a unit made better, of which all is asked that the chapter says outright.
func better(t *testing.T, u api.Unit) api.Unit {
	t.Helper()
	b := opt.Unit(u)
	if !fat.Good(u) || !fat.Good(b) {
		t.Fatalf("P14.1: %v of %v: not well formed", b, u)
	}
	if len(u.Fns) != len(b.Fns) || len(u.Tops) != len(b.Tops) || len(u.Tops) > 0 && !reflect.DeepEqual(u.Tops, b.Tops) {
		t.Fatalf("P14.1: %v of %v", b, u)
	}
	for k, f := range u.Fns {
		shaped(t, f, b.Fns[k])
	}
	return b
}

// as asks that a unit does as another one does with so much fuel, and answers what that is.
func as(t *testing.T, what string, u, b api.Unit, input []byte, fuel int) api.Result {
	t.Helper()
	want, got := fat.Run(u, input, fuel), fat.Run(b, input, fuel)
	ok := got.State == want.State && got.Code == want.Code && string(got.Out) == string(want.Out) && got.Steps <= want.Steps && got.Checks <= want.Checks
	if want.State == api.Running {
		ok = strings.HasPrefix(string(got.Out), string(want.Out))
	}
	if want.State == api.Running && got.State != api.Running {
		whole := fat.Run(u, input, 100*fuel+100)
		ok = whole.State == got.State && whole.Code == got.Code && string(whole.Out) == string(got.Out)
	}
	if !ok {
		t.Fatalf("P14.1: %s, with %q and %d of fuel: %v, want as %v:\n%v\n%v", what, input, fuel, got, want, u.Fns, b.Fns)
	}
	return want
}

// becomes asks how many instructions are left of a function, and that it does as it did where main calls it with small numbers, and such that it can't know.
func becomes(t *testing.T, left int, f api.Fn) api.Fn {
	t.Helper()
	g := opt.Fn(f)
	shaped(t, f, g)
	if len(g.Code) != left {
		t.Errorf("P14.1: %v instructions, want %v: %v of %v", len(g.Code), left, g.Code, f.Code)
	}
	called(t, f, g)
	return g
}

// called holds a function against another one in its place, with several arguments.
func called(t *testing.T, f, g api.Fn) {
	t.Helper()
	for _, first := range []uint64{0, 1, 2, 5, 255, 4096, minus(1), minus(8)} {
		for _, rest := range []uint64{0, 1, 9} {
			main := plain("main", nil)
			var args []int
			for k := range f.Params {
				main.Code = append(main.Code, ins.Const(k, first+rest*uint64(k)))
				args = append(args, k)
			}
			var outs []int
			for _, i := range f.Code {
				if i.Op == api.FRet {
					outs = []int{0, 1, 2, 3, 4, 5, 6}[:len(i.Args)]
				}
			}
			main.Code = append(main.Code, ins.Call(f.Name, args, outs))
			for _, r := range outs {
				main.Code = append(main.Code, ins.Call("show", []int{r}, nil))
			}
			main.Code = append(main.Code, ins.Ret())
			as(t, f.Name, units(main, f, show()), units(main, g, show()), []byte{8, 0, 16, 1, 255}, plenty)
		}
	}
}

// show is a function that puts out all eight bytes of a number.
func show() api.Fn {
	f := plain("show", []int{0})
	for k := range 8 {
		f.Code = append(f.Code, ins.Const(1, uint64(8*k)), ins.Op(2, 0, 1, api.SRL), ins.Put(2))
	}
	f.Code = append(f.Code, ins.Ret())
	return f
}

// P14.1: the chapter's example.
func TestExample(t *testing.T) {
	g := becomes(t, 2, plain("f", five(), checks(8), checks(4), ins.Ret()))
	if !reflect.DeepEqual(g.Code, []api.Ins{checks(8), ins.Ret()}) {
		t.Errorf("P14.1: %v", g.Code)
	}
}

// P14.1: what is least stays what it is; a unit may have functions that nothing calls, no variables, and one that only goes round.
func TestLeast(t *testing.T) {
	for _, l := range [][]api.Ins{{ins.Ret()}, {ins.Exit(0)}, {ins.Jump(0)}, {ins.Put(3), ins.Exit(3)}, {ins.Get(1), ins.Ret()}} {
		becomes(t, len(l), plain("f", nil, l...))
	}
	u := api.Unit{Fns: []api.Fn{{Name: "main", Code: []api.Ins{ins.Ret()}}}}
	if b := better(t, u); len(b.Fns[0].Code) != 1 || len(b.Fns[0].Kinds) != 0 {
		t.Errorf("P14.1: %v", b)
	}
	u = units(plain("g", []int{3, 1}, ins.Ret(3, 1)), plain("main", nil, ins.Jump(2), ins.Ret(), ins.Jump(1)), plain("h", nil, ins.Jump(0)))
	as(t, "unit", u, better(t, u), nil, 9)
	if b := opt.Unit(api.Unit{}); len(b.Fns) != 0 || len(b.Tops) != 0 {
		t.Errorf("P14.1: %v", b)
	}
}

// P14.3, P7 (R6, R8): of random units what is handed in stays, spare room, too, and the answers are the same each time.
func TestStays(t *testing.T) {
	t.Parallel()
	for seed := range 800 {
		made, _ := []func(int) (api.Unit, []byte){samples.Unit, samples.Loops}[seed%2](seed)
		u, again := samples.Roomy(made), samples.Roomy(made)
		a := opt.Unit(u)
		if b := opt.Unit(u); !reflect.DeepEqual(a, b) || !reflect.DeepEqual(samples.Roomy(a), samples.Roomy(opt.Unit(made))) {
			t.Fatalf("P7 (R8): seed %d: %v, then %v", seed, a, b)
		}
		if !reflect.DeepEqual(samples.Bare(u), samples.Bare(again)) {
			t.Fatalf("P14.3: seed %d: what was handed in is another", seed)
		}
	}
}

// P14.3, P7 (R6): what is answered is new memory, no two lists of it the same, spare room too; nothing is kept.
func TestNew(t *testing.T) {
	t.Parallel()
	for seed := range 500 {
		u, _ := []func(int) (api.Unit, []byte){samples.Unit, samples.Loops}[seed%2](seed)
		again := samples.Roomy(u)
		a, b := opt.Unit(u), opt.Unit(u)
		for k := range a.Fns {
			spoil(&a.Fns[k])
		}
		a.Fns, a.Tops = append(a.Fns, api.Fn{}), append(a.Tops, api.Top{})
		if !reflect.DeepEqual(samples.Roomy(u), again) || !reflect.DeepEqual(opt.Unit(u), b) {
			t.Fatalf("P14.3: seed %d: memory is shared", seed)
		}
	}
	// Of two lists of one answer each is by itself: to write to all of one changes no other one.
	f := opt.Fn(plain("f", five(), checks(4), checks(8), ins.Free(0, 1, 2, 3, 4), ins.Call("f", five(), five()), ins.Ret(0, 1, 2, 3, 4)))
	for k := range f.Code {
		before := samples.Roomy(api.Unit{Fns: []api.Fn{f}})
		for n := range f.Code[k].Args {
			f.Code[k].Args[n] = 9
		}
		for n := range f.Code[k].Outs {
			f.Code[k].Outs[n] = 9
		}
		before.Fns[0].Code[k] = samples.Roomy(api.Unit{Fns: []api.Fn{f}}).Fns[0].Code[k]
		if !reflect.DeepEqual(before, samples.Roomy(api.Unit{Fns: []api.Fn{f}})) {
			t.Errorf("P14.3: instruction %d shares a list", k)
		}
	}
}

// spoil writes to all of a function's lists, and to their spare room.
func spoil(f *api.Fn) {
	for _, l := range []*[]int{&f.Params, &f.Kinds, &f.Slots} {
		fill(*l)
	}
	code := f.Code[:cap(f.Code)]
	for k := range code {
		fill(code[k].Args)
		fill(code[k].Outs)
		code[k] = api.Ins{Op: 99}
	}
}

func fill(l []int) {
	l = l[:cap(l)]
	for k := range l {
		l[k] = 99
	}
}
