package fat_test

import (
	"strconv"
	"testing"

	"hauberk/api"
	"hauberk/fat"
	"hauberk/ins"
	"hauberk/num"
	"hauberk/samples"
)

// plenty is more fuel than the runs need that end.
const plenty = 100000

func minus(n uint64) uint64 { return -n }

// fn is a function with sixteen registers, and slots of 8 and 20 bytes.
func fn(name string, params []int, l ...api.Ins) api.Fn {
	f := plain(name, params, l...)
	f.Slots = []int{8, 20}
	return f
}

// plain is one without slots.
func plain(name string, params []int, l ...api.Ins) api.Fn {
	f := api.Fn{Name: name, Params: params, Code: l}
	for range 16 {
		f.Kinds = append(f.Kinds, 1)
	}
	return f
}

// unit is one of a main with slots, and variables v of 8 bytes at 4096, w of 17 at 4112, and none of 0 at 4144.
func unit(l ...api.Ins) api.Unit { return units(fn("main", nil, l...)) }

func units(l ...api.Fn) api.Unit {
	return api.Unit{Tops: []api.Top{{Name: "v", Size: 8}, {Name: "w", Size: 17}, {Name: "none", Size: 0}}, Fns: l}
}

// ran asks for a run's whole result, of a unit that has to be right.
func ran(t *testing.T, u api.Unit, input string, want api.Result) {
	t.Helper()
	if !fat.Good(u) {
		t.Errorf("P12.1: not well formed: %v", u)
		return
	}
	if got := fat.Run(u, []byte(input), plenty); !samples.Same(got, want) {
		t.Errorf("P12.1: %v: %v, want %v", u.Fns, got, want)
	}
}

// ends asks for Exit, of a main alone.
func ends(t *testing.T, code byte, out string, steps int, l ...api.Ins) {
	t.Helper()
	ran(t, unit(l...), "", api.Result{State: api.Exit, Code: code, Out: []byte(out), Steps: steps})
}

// stops asks for a way to stop, of a main alone, by its last instruction, with so many FChecks done.
func stops(t *testing.T, state, checks int, l ...api.Ins) {
	t.Helper()
	ran(t, unit(append(l[:len(l):len(l)], ins.Ret())...), "", api.Result{State: state, Steps: len(l), Checks: checks})
}

// is asks whether the numbers of registers 0, 1 and on are these, all 64 bits of each, behind some instructions that go on.
func is(t *testing.T, u api.Unit, main int, checks int, want ...uint64) {
	t.Helper()
	f := &u.Fns[main]
	back := f.Code[:len(f.Code):len(f.Code)]
	for k, n := range want {
		f.Code = append(back, ins.Const(15, n), ins.Op(15, k, 15, api.XOR), ins.If(15, len(back)+4), ins.Ret(15), ins.Const(15, 1), ins.Ret(15))
		r := fat.Run(u, nil, plenty)
		if r.State != api.Exit || r.Code != 0 || len(r.Out) > 0 || r.Checks != checks {
			t.Errorf("P12.1: %v: %v, register %d isn't %s", u.Fns, r, k, strconv.FormatUint(n, 16))
		}
	}
	f.Code = back
}

// equal is that of a main alone.
func equal(t *testing.T, want []uint64, l ...api.Ins) {
	t.Helper()
	is(t, unit(l...), 0, 0, want...)
}

func list(l ...uint64) []uint64 { return l }

// P12.1: the chapter's example.
func TestExample(t *testing.T) {
	u := api.Unit{Fns: []api.Fn{{Name: "main", Kinds: []int{1, 1, 1, 1, 1}, Code: []api.Ins{ins.Check(1, 0, 1, 2, 3, 4), ins.Ret()}}}}
	ran(t, u, "", api.Result{State: api.Trap, Steps: 1, Checks: 1})
}

// P12.1: main's answer is the first of its FRet's Args, by its low byte, or 0.
func TestMain(t *testing.T) {
	ends(t, 0, "", 1, ins.Ret())
	ends(t, 0, "", 1, ins.Ret(3))
	ends(t, 255, "", 2, ins.Const(1, 255), ins.Ret(1))
	ends(t, 44, "", 2, ins.Const(1, 300), ins.Ret(1))
	ends(t, 255, "", 2, ins.Const(0, minus(1)), ins.Ret(0))
	ends(t, 0, "", 2, ins.Const(0, 256), ins.Ret(0))
	ends(t, 7, "", 3, ins.Const(4, 7), ins.Const(5, 8), ins.Ret(4, 5))
	ends(t, 8, "", 3, ins.Const(4, 7), ins.Const(5, 8), ins.Ret(5, 4, 4, 4, 4, 4))
	ends(t, 0, "", 3, ins.Const(4, 7), ins.Const(5, 8), ins.Ret())
	// Where it isn't called, its FRets may answer more and less.
	ends(t, 6, "", 4, ins.Const(0, 6), ins.If(0, 3), ins.Ret(), ins.Const(1, 3), ins.Ret(0, 1))
	// A main that is called is a call like others: just the first one's end stops the run.
	u := unit(ins.Top(4, "v"), ins.Load(0, 4, 8), ins.Const(1, 1), ins.Op(0, 0, 1, api.ADD), ins.Store(4, 0, 8), ins.Const(1, 3), ins.Op(1, 0, 1, api.SLT), ins.If(1, 9), ins.Ret(0), ins.Call("main", nil, []int{2}), ins.Put(2), ins.Op(0, 2, 0, api.ADD), ins.Ret(0))
	ran(t, u, "", api.Result{State: api.Exit, Code: 6, Out: []byte{3, 5}, Steps: 9 + 2*8 + 2*4})
}

// P12.1: MExit stops the run wherever it stands, by the low byte.
func TestExit(t *testing.T) {
	ends(t, 0, "", 1, ins.Exit(0))
	ends(t, 44, "", 2, ins.Const(3, 300), ins.Exit(3))
	ends(t, 254, "", 2, ins.Const(3, minus(2)), ins.Exit(3))
	u := units(fn("main", nil, ins.Call("f", nil, nil), ins.Const(0, 'x'), ins.Put(0), ins.Ret(0)), fn("f", nil, ins.Const(1, 'f'), ins.Put(1), ins.Call("g", []int{1}, []int{0}), ins.Ret()), fn("g", []int{2}, ins.Put(2), ins.Exit(2)))
	ran(t, u, "", api.Result{State: api.Exit, Code: 'f', Out: []byte("ff"), Steps: 6})
}

// P12.1: registers are 0 at first, and are what is put into them, all 64 bits.
func TestRegisters(t *testing.T) {
	equal(t, list(0, 0, 0))
	equal(t, list(5, 7, minus(1)), ins.Const(0, 5), ins.Const(1, 7), ins.Const(2, minus(1)))
	equal(t, list(7, 5), ins.Const(0, 5), ins.Move(1, 0), ins.Const(0, 7))
	equal(t, list(1<<63+5, 1<<63+5), ins.Const(0, 1<<63+5), ins.Move(1, 0), ins.Move(0, 0))
	equal(t, list(3), ins.Const(0, 4), ins.Const(0, 3))
}

// P12.1: the operations are those of chapter 1.
func TestOperations(t *testing.T) {
	numbers := []uint64{0, 1, minus(1), 2, 7, minus(7), 31, 32, 63, 64, 127, 128, 255, 1 << 31, minus(1 << 31), 1<<31 - 1, 1 << 32, 1<<32 + 5, 1<<63 - 1, 1 << 63, 1<<63 + 1}
	for o := api.ADD; o <= api.REMUW; o++ {
		for _, a := range numbers {
			for _, b := range numbers {
				want, _ := num.Do(o, a, b)
				equal(t, list(a, b, want), ins.Const(0, a), ins.Const(1, b), ins.Op(2, 0, 1, o))
			}
		}
	}
	equal(t, list(8), ins.Const(0, 4), ins.Op(0, 0, 0, api.ADD))
	equal(t, list(10, 3), ins.Const(0, 10), ins.Const(1, 7), ins.Op(1, 0, 1, api.SUB))
}

// P12.1: MNarrow takes the low bytes, signed.
func TestNarrow(t *testing.T) {
	for _, c := range []struct {
		a    uint64
		size int
		want uint64
	}{
		{0, 1, 0}, {127, 1, 127}, {128, 1, minus(128)}, {255, 1, minus(1)}, {256, 1, 0}, {minus(1), 1, minus(1)}, {0x12345680, 1, minus(128)}, {1 << 63, 1, 0},
		{255, 4, 255}, {1<<31 - 1, 4, 1<<31 - 1}, {1 << 31, 4, minus(1 << 31)}, {1<<32 - 1, 4, minus(1)}, {1 << 32, 4, 0}, {1<<40 + 5, 4, 5},
		{1 << 31, 8, 1 << 31}, {1 << 63, 8, 1 << 63}, {1<<63 - 1, 8, 1<<63 - 1}, {minus(1), 8, minus(1)},
	} {
		equal(t, list(c.want), ins.Const(0, c.a), ins.Narrow(0, 0, c.size))
		equal(t, list(c.want, 0, 0, c.a), ins.Const(3, c.a), ins.Narrow(0, 3, c.size))
	}
}

// P12.1: what is put out and taken in.
func TestBytes(t *testing.T) {
	ends(t, 0, "A\xff\x00z", 9, ins.Const(0, 321), ins.Put(0), ins.Const(0, minus(1)), ins.Put(0), ins.Put(1), ins.Const(2, 1<<40+'z'), ins.Put(2), ins.Const(0, 0), ins.Ret(0))
	all := ""
	for k := range 256 {
		all += string([]byte{byte(k)})
	}
	// echo puts out what comes in; its Code tells how the input's end looks, twice.
	echo := unit(ins.Get(0), ins.Const(1, 0), ins.Op(1, 0, 1, api.SLT), ins.If(1, 6), ins.Put(0), ins.Jump(0), ins.Get(1), ins.Op(0, 0, 1, api.ADD), ins.Ret(0))
	for _, input := range []string{"", "a", "\x00\xff", all} {
		ran(t, echo, input, api.Result{State: api.Exit, Code: 254, Out: []byte(input), Steps: 6*len(input) + 7})
	}
	equal(t, list(minus(1), minus(1)), ins.Get(0), ins.Get(1))
	ran(t, unit(ins.Get(0), ins.Get(1), ins.Op(0, 0, 1, api.SUB), ins.Ret(0)), "\xff\x01\x02", api.Result{State: api.Exit, Code: 254, Steps: 4})
}

// P12.1: MIf goes on elsewhere, if its number isn't 0, whatever bit is set; else behind it.
func TestJumps(t *testing.T) {
	for _, v := range []uint64{1, minus(1), 256, 1 << 32, 1 << 63} {
		ends(t, 2, "", 4, ins.Const(0, v), ins.If(0, 3), ins.Exit(1), ins.Const(1, 2), ins.Exit(1))
	}
	ends(t, 0, "", 3, ins.Const(0, 0), ins.If(0, 3), ins.Exit(1), ins.Const(1, 2), ins.Exit(1))
	ends(t, 6, "", 3, ins.Jump(2), ins.Exit(1), ins.Const(0, 6), ins.Exit(0))
	ends(t, 1, "\x03\x02\x01", 3+3*3+1, ins.Const(0, 3), ins.Const(1, minus(1)), ins.Const(2, 1), ins.Put(0), ins.Op(0, 0, 1, api.ADD), ins.If(0, 3), ins.Ret(2))
	// The last one may lead back.
	ends(t, 0, "", 4, ins.Jump(2), ins.Ret(0), ins.If(0, 3), ins.Jump(1))
	for _, l := range [][]api.Ins{{ins.Jump(0)}, {ins.Put(0), ins.Jump(0)}, {ins.Const(0, 1), ins.If(0, 1), ins.Ret(0)}, {ins.Put(0), ins.Jump(1)}} {
		u := unit(l...)
		if r := fat.Run(u, nil, 777); r.State != api.Running || r.Steps != 777 {
			t.Errorf("P12.1: %v: %v", l, r)
		}
	}
}
