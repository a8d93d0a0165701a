package mid_test

import (
	"math"
	"testing"

	"hauberk/api"
	"hauberk/blocks"
	"hauberk/mid"
	"hauberk/num"
	"hauberk/samples"
)

// plenty is more fuel than the runs need that end.
const plenty = 100000

const (
	n = 1 // the kind of numbers
	p = 2 // of pointers
)

// fn is a function with registers 0 to 3 for numbers, 4 to 7 for pointers, and slots of 8 and 12 bytes.
func fn(name string, params []int, l ...api.Ins) api.Fn {
	return api.Fn{Name: name, Params: params, Kinds: []int{n, n, n, n, p, p, p, p}, Slots: []int{8, 12}, Code: l}
}

// unit is one with variables v of 8 bytes, w of 16, and none of 0, and a main.
func unit(l ...api.Ins) api.Unit { return units(fn("main", nil, l...)) }

func units(l ...api.Fn) api.Unit {
	return api.Unit{Tops: []api.Top{{Name: "v", Size: 8}, {Name: "w", Size: 16}, {Name: "none", Size: 0}}, Fns: l}
}

// Instructions, with their parts in the order of api's remarks.
var (
	move, op, narrow = blocks.Move, blocks.Op, blocks.Narrow
	null, top, local = blocks.Null, blocks.Top, blocks.Local
	add, part, is    = blocks.Add, blocks.Part, blocks.Is
	load, store      = blocks.Load, blocks.Store
	empty            = blocks.Clear
	malloc, free     = blocks.Malloc, blocks.Free
	call, ret        = blocks.Call, blocks.Ret
	jump, branch     = blocks.Jump, blocks.If
	put, get, exit   = blocks.Put, blocks.Get, blocks.Exit
)

func constant(dst, v int) api.Ins { return blocks.Const(dst, num.Of(v)) }

// ran asks for a run's whole result, of a unit that has to be right.
func ran(t *testing.T, u api.Unit, input string, want api.Result) {
	t.Helper()
	if !mid.Good(u) {
		t.Errorf("P10.1: not well formed: %v", u)
		return
	}
	if got := mid.Run(u, []byte(input), plenty); !samples.Same(got, want) {
		t.Errorf("P10.1: %v: %v, want %v", u.Fns, got, want)
	}
}

// ends asks for Exit, of a main alone.
func ends(t *testing.T, code byte, out string, steps int, l ...api.Ins) {
	t.Helper()
	ran(t, unit(l...), "", api.Result{State: api.Exit, Code: code, Out: []byte(out), Steps: steps})
}

// stuck asks for Stuck, of a main alone, by its last instruction but one.
func stuck(t *testing.T, why api.Errno, l ...api.Ins) {
	t.Helper()
	ran(t, unit(append(l, ret(-1))...), "", api.Result{State: api.Stuck, Why: why, Steps: len(l)})
}

// P10.1: the chapter's example.
func TestExample(t *testing.T) {
	u := api.Unit{Fns: []api.Fn{{Name: "main", Kinds: []int{1}, Code: []api.Ins{{Op: api.MConst, N: 7}, {Op: api.MRet}}}}}
	ran(t, u, "", api.Result{State: api.Exit, Code: 7, Steps: 2})
}

// P10.1: what main answers; of a pointer, or of nothing, 0.
func TestMain(t *testing.T) {
	ends(t, 0, "", 1, ret(0))
	ends(t, 0, "", 1, ret(-1))
	ends(t, 255, "", 2, constant(1, 255), ret(1))
	ends(t, 44, "", 2, constant(1, 300), ret(1))
	ends(t, 255, "", 2, constant(0, -1), ret(0))
	ends(t, 0, "", 2, constant(0, 256), ret(0))
	ends(t, 0, "", 1, ret(4))
	ends(t, 0, "", 3, constant(0, 9), local(4, 0), ret(4))
	ends(t, 0, "", 4, constant(0, 9), local(4, 0), add(4, 4, 0), ret(4))
	// A main that is called is a call like others: just the first one's end stops the run.
	u := unit(top(4, "v"), load(0, 4, 8), constant(1, 1), op(0, 0, 1, api.ADD), store(4, 0, 8), constant(1, 3), op(1, 0, 1, api.SLT), branch(1, 9), ret(0), call(2, "main"), put(2), op(0, 2, 0, api.ADD), ret(0))
	ran(t, u, "", api.Result{State: api.Exit, Code: 6, Out: []byte{3, 5}, Steps: 9 + 2*8 + 2*4})
}

// P10.1: MExit stops the run wherever it stands, by the low byte.
func TestExit(t *testing.T) {
	ends(t, 0, "", 1, exit(0))
	ends(t, 44, "", 2, constant(3, 300), exit(3))
	ends(t, 254, "", 2, constant(3, -2), exit(3))
	u := units(fn("main", nil, call(-1, "f"), constant(0, 'x'), put(0), ret(0)), fn("f", nil, constant(1, 'f'), put(1), call(0, "g", 1), ret(-1)), fn("g", []int{2}, put(2), exit(2)))
	ran(t, u, "", api.Result{State: api.Exit, Code: 'f', Out: []byte("ff"), Steps: 6})
}

// P10.1: registers are 0 and to nothing at first, and are what is put into them.
func TestRegisters(t *testing.T) {
	ends(t, 0, "\x00\x00\x01\x01\x00", 9, put(0), put(3), is(0, 4), put(0), is(1, 7), put(1), constant(0, 0), put(2), ret(2))
	ends(t, 5, "\x05\x07", 6, constant(0, 5), move(1, 0), constant(0, 7), put(1), put(0), ret(1))
	ends(t, 3, "", 2, constant(0, 3), ret(0))
	ends(t, 3, "", 3, constant(0, 3), move(0, 0), ret(0))
	// A pointer's copy stays where it is, when the one moves on.
	ends(t, 9, "", 9, top(4, "v"), move(5, 4), constant(0, 4), add(4, 4, 0), constant(1, 9), store(5, 1, 1), top(6, "v"), load(2, 6, 1), ret(2))
}

// P10.1: the operations are those of chapter 1.
func TestOperations(t *testing.T) {
	numbers := []int{0, 1, -1, 2, 7, -7, 31, 32, 63, 64, 127, 128, 255, 1 << 31, -1 << 31, 1<<31 - 1, 1 << 32, 1<<32 + 5, math.MaxInt, math.MinInt, math.MinInt + 1}
	for o := api.ADD; o <= api.REMUW; o++ {
		for _, a := range numbers {
			for _, b := range numbers {
				want, _ := num.Do(o, num.Of(a), num.Of(b))
				// All 64 bits are held against those that are wanted.
				u := unit(constant(0, a), constant(1, b), op(2, 0, 1, o), constant(3, num.Signed(want)), op(2, 2, 3, api.XOR), branch(2, 7), ret(2), constant(0, 1), ret(0))
				if r := mid.Run(u, nil, plenty); r.State != api.Exit || r.Code != 0 {
					t.Fatalf("P10.1: operation %d of %d and %d: %v", o, a, b, r)
				}
			}
		}
	}
	ends(t, 8, "", 3, constant(0, 4), op(0, 0, 0, api.ADD), ret(0))
	ends(t, 3, "", 4, constant(0, 10), constant(1, 7), op(1, 0, 1, api.SUB), ret(1))
}

// equal asks whether a number in register 0 is one, behind some instructions that go on.
func equal(t *testing.T, want int, l ...api.Ins) {
	t.Helper()
	steps := len(l) + 4
	l = append(l, constant(1, want), op(0, 0, 1, api.SUB), op(0, 2, 0, api.SLTU), ret(0))
	ran(t, unit(l...), "", api.Result{State: api.Exit, Steps: steps})
}

// P10.1: MNarrow takes the low bytes, signed.
func TestNarrow(t *testing.T) {
	for _, c := range [][3]int{
		{0, 1, 0}, {127, 1, 127}, {128, 1, -128}, {255, 1, -1}, {256, 1, 0}, {-1, 1, -1}, {-129, 1, 127}, {0x12345680, 1, -128}, {math.MinInt, 1, 0},
		{127, 4, 127}, {255, 4, 255}, {1<<31 - 1, 4, 1<<31 - 1}, {1 << 31, 4, -1 << 31}, {1<<32 - 1, 4, -1}, {1 << 32, 4, 0}, {-1<<31 - 1, 4, 1<<31 - 1}, {1<<40 + 5, 4, 5},
		{1 << 31, 8, 1 << 31}, {math.MinInt, 8, math.MinInt}, {math.MaxInt, 8, math.MaxInt}, {-1, 8, -1},
	} {
		equal(t, c[2], constant(0, c[0]), narrow(0, 0, c[1]))
		equal(t, c[2], constant(3, c[0]), narrow(0, 3, c[1]))
	}
}

// P10.1: MIs tells pointers to nothing from all others.
func TestNothing(t *testing.T) {
	for _, c := range []struct {
		want byte
		l    []api.Ins
	}{
		{1, []api.Ins{null(4)}}, {1, []api.Ins{top(4, "v"), null(4)}}, {1, []api.Ins{constant(0, 5), add(4, 5, 0)}}, {1, []api.Ins{part(4, 5, 3, 8)}}, {1, []api.Ins{top(4, "v"), move(4, 5)}},
		{0, []api.Ins{top(4, "v")}}, {0, []api.Ins{top(4, "none")}}, {0, []api.Ins{local(4, 1)}}, {0, []api.Ins{top(4, "v"), constant(0, math.MinInt), add(4, 4, 0)}}, {0, []api.Ins{top(5, "v"), part(4, 5, api.MaxMemory-1, 1)}},
		{0, []api.Ins{constant(0, 4), malloc(4, 0)}}, {0, []api.Ins{constant(0, 4), malloc(4, 0), free(4)}}, {0, []api.Ins{top(5, "v"), move(4, 5)}},
	} {
		ends(t, c.want, "", len(c.l)+2, append(c.l, is(0, 4), ret(0))...)
	}
}

// P10.1: what is put out and taken in.
func TestBytes(t *testing.T) {
	ends(t, 0, "A\xff\x00z", 9, constant(0, 321), put(0), constant(0, -1), put(0), put(1), constant(2, 1<<40+'z'), put(2), constant(0, 0), ret(0))
	all := ""
	for k := range 256 {
		all += string([]byte{byte(k)})
	}
	// echo puts out what comes in; its Code tells how the input's end looks, twice.
	echo := unit(get(0), constant(1, 0), op(1, 0, 1, api.SLT), branch(1, 6), put(0), jump(0), get(1), op(0, 0, 1, api.ADD), ret(0))
	for _, input := range []string{"", "a", "\x00\xff", all} {
		ran(t, echo, input, api.Result{State: api.Exit, Code: 254, Out: []byte(input), Steps: 6*len(input) + 7})
	}
	equal(t, -1, get(0))
	ran(t, unit(get(0), get(1), op(0, 0, 1, api.SUB), ret(0)), "\xff\x01\x02", api.Result{State: api.Exit, Code: 254, Steps: 4})
}

// P10.1: MIf goes on elsewhere, if its number isn't 0, whatever bit is set; else behind it.
func TestJumps(t *testing.T) {
	for _, v := range []int{1, -1, 256, 1 << 32, math.MinInt} {
		ends(t, 2, "", 4, constant(0, v), branch(0, 3), exit(1), constant(1, 2), exit(1))
	}
	ends(t, 0, "", 3, constant(0, 0), branch(0, 3), exit(1), constant(1, 2), exit(1))
	ends(t, 6, "", 3, jump(2), exit(1), constant(0, 6), exit(0))
	ends(t, 1, "\x03\x02\x01", 3+3*3+1, constant(0, 3), constant(1, -1), constant(2, 1), put(0), op(0, 0, 1, api.ADD), branch(0, 3), ret(2))
	// The last one may lead back.
	ends(t, 0, "", 4, jump(2), ret(0), branch(0, 3), jump(1))
	for _, l := range [][]api.Ins{{jump(0)}, {put(0), jump(0)}, {constant(0, 1), branch(0, 1), ret(0)}, {put(0), jump(1)}} {
		u := unit(l...)
		if r := mid.Run(u, nil, 777); r.State != api.Running || r.Steps != 777 {
			t.Errorf("P10.1: %v: %v", l, r)
		}
	}
}
