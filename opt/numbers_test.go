package opt_test

import (
	"strconv"
	"testing"

	"hauberk/api"
	"hauberk/chance"
	"hauberk/fat"
	"hauberk/ins"
	"hauberk/num"
	"hauberk/opt"
)

// edges are numbers at which operations turn.
func edges() []uint64 {
	return []uint64{0, 1, minus(1), 2, 3, 7, 8, minus(8), 31, 32, 63, 64, 127, 128, minus(128), 255, 256, 4095, 4096, minus(4096), 1<<31 - 1, 1 << 31, minus(1 << 31), 1<<32 - 1, 1 << 32, 1<<32 + 5, 1<<63 - 1, 1 << 63, 1<<63 + 1}
}

// onEdges asks that a function of two params and one answer does as it did, with each edge and some other numbers.
func onEdges(t *testing.T, what string, f api.Fn, others ...uint64) {
	t.Helper()
	g := opt.Fn(f)
	shaped(t, f, g)
	main := plain("main", nil)
	for _, x := range edges() {
		main.Code = append(main.Code, ins.Const(0, x))
		for _, y := range others {
			main.Code = append(main.Code, ins.Const(1, y), ins.Call("f", []int{0, 1}, []int{2}), ins.Call("show", []int{2}, nil))
		}
	}
	main.Code = append(main.Code, ins.Ret())
	if r := as(t, what, units(main, f, show()), units(main, g, show()), nil, 10*plenty); r.State != api.Exit {
		t.Fatalf("%s: %v", what, r)
	}
}

// P14.1: each operation, of what a function is handed, of constants, and of one with itself, either way and both ways, at all edges.
func TestOperations(t *testing.T) {
	t.Parallel()
	sum := []api.Ins{ins.Const(4, 3), ins.Op(2, 2, 4, api.MUL), ins.Op(2, 2, 3, api.ADD), ins.Ret(2)}
	for op := api.ADD; op <= api.REMUW; op++ {
		what := "operation " + strconv.Itoa(op)
		onEdges(t, what, fn("f", []int{0, 1}, append([]api.Ins{ins.Op(2, 0, 1, op), ins.Op(3, 1, 0, op)}, sum...)...), edges()...)
		onEdges(t, what, fn("f", []int{0, 1}, ins.Op(2, 0, 0, op), ins.Ret(2)), 0)
		for _, c := range edges() {
			onEdges(t, what, fn("f", []int{0, 1}, append([]api.Ins{ins.Const(5, c), ins.Op(2, 0, 5, op), ins.Op(3, 5, 0, op)}, sum...)...), 0)
			onEdges(t, what, fn("f", []int{0, 1}, ins.Const(2, c), ins.Op(3, 2, 2, op), ins.Op(3, 3, 0, api.XOR), ins.Ret(3)), 0)
		}
	}
}

// leaf makes a number that is known, or not.
func leaf(s *chance.Source, r int) []api.Ins {
	return chance.Pick(s,
		[]api.Ins{ins.Const(r, chance.Pick(s, edges()...))}, []api.Ins{ins.Const(r, s.Next()%20)}, []api.Ins{ins.Const(r, s.Next())}, []api.Ins{ins.Move(r, s.Below(2))},
		[]api.Ins{ins.Top(r, chance.Pick(s, "v", "w"))}, []api.Ins{ins.Slot(r, s.Below(2))}, []api.Ins{ins.Key(r)}, []api.Ins{ins.Lock(r)}, []api.Ins{ins.Get(r)},
		[]api.Ins{ins.Const(r, 24), ins.Malloc(r, chance.Pick(s, [][]int{{r, 10, 11, 12, 13}, {10, r, 11, 12, 13}, {10, 11, r, 12, 13}, {10, 11, 12, r, 13}, {10, 11, 12, 13, r}}...)...)},
	)
}

// P14.1: random numbers made of each other, of addresses, keys and constants, too: what comes of them is the same, all 64 bits.
func TestExpressions(t *testing.T) {
	t.Parallel()
	for seed := range 3000 {
		s := chance.New(seed)
		f := fn("f", []int{0, 1})
		if s.Below(3) == 0 {
			f = plain("f", []int{0, 1})
		}
		for r := 2; r < 6; r++ {
			l := leaf(&s, r)
			if l[0].Op == api.FSlot && len(f.Slots) == 0 {
				l = []api.Ins{ins.Move(r, 1)}
			}
			f.Code = append(f.Code, l...)
		}
		for range 3 + s.Below(9) {
			x, y, z := 2+s.Below(6), s.Below(8), s.Below(8)
			op := chance.Pick(&s, api.ADD, api.ADD, api.SUB, api.SUB, api.MUL, api.SLTU, api.SLTU, api.XOR, api.SLT, 1+s.Below(27))
			f.Code = append(f.Code, chance.Pick(&s, ins.Op(x, y, z, op), ins.Op(x, y, z, op), ins.Op(x, y, z, op), ins.Narrow(x, y, chance.Pick(&s, 1, 4, 8)), ins.Const(x, chance.Pick[uint64](&s, 0, 1, 8, minus(8)))))
		}
		f.Code = append(f.Code, ins.Put(2), ins.If(2+s.Below(6), len(f.Code)+3), ins.Put(3), ins.Ret(2+s.Below(6)))
		g := opt.Fn(f)
		shaped(t, f, g)
		called(t, f, g)
	}
}

// P14.1: what numbers make is known where it is: so many instructions are left.
func TestLaws(t *testing.T) {
	two := []int{0, 1}
	for _, c := range []struct {
		left int
		l    []api.Ins
	}{
		// The same of the same is made once, in whichever order, where that doesn't count.
		{3, []api.Ins{ins.Op(2, 0, 1, api.DIV), ins.Op(3, 0, 1, api.DIV), ins.Put(2), ins.Ret(3)}}, {4, []api.Ins{ins.Op(2, 0, 1, api.DIV), ins.Op(3, 1, 0, api.DIV), ins.Put(2), ins.Ret(3)}}, {3, []api.Ins{ins.Op(2, 0, 1, api.ADDW), ins.Op(3, 1, 0, api.ADDW), ins.Put(2), ins.Ret(3)}}, {4, []api.Ins{ins.Op(2, 0, 1, api.ADD), ins.Op(3, 0, 1, api.ADDW), ins.Put(2), ins.Ret(3)}},
		{3, []api.Ins{ins.Narrow(2, 0, 4), ins.Narrow(3, 0, 4), ins.Put(2), ins.Ret(3)}}, {4, []api.Ins{ins.Narrow(2, 0, 4), ins.Narrow(3, 0, 1), ins.Put(2), ins.Ret(3)}}, {4, []api.Ins{ins.Narrow(2, 0, 4), ins.Narrow(3, 1, 4), ins.Put(2), ins.Ret(3)}}, {3, []api.Ins{ins.Const(2, 5), ins.Const(3, 5), ins.Put(2), ins.Ret(3)}},
		{5, []api.Ins{ins.Op(2, 0, 1, api.DIV), ins.Get(0), ins.Op(3, 0, 1, api.DIV), ins.Put(2), ins.Ret(3)}}, {3, []api.Ins{ins.Move(5, 0), ins.Move(6, 5), ins.Op(2, 6, 1, api.DIV), ins.Op(3, 5, 1, api.DIV), ins.Put(3), ins.Ret(2)}},
		// What is the same already.
		{1, []api.Ins{ins.Move(0, 0), ins.Ret(0)}}, {1, []api.Ins{ins.Move(5, 0), ins.Move(0, 5), ins.Ret(0)}}, {1, []api.Ins{ins.Const(5, 0), ins.Ret(5)}}, {1, []api.Ins{ins.Const(5, 0), ins.Op(6, 0, 5, api.ADD), ins.Ret(6)}}, {1, []api.Ins{ins.Op(6, 0, 5, api.SUB), ins.Ret(6)}}, {1, []api.Ins{ins.Op(6, 0, 5, api.SRA), ins.Ret(6)}}, {1, []api.Ins{ins.Const(5, 1), ins.Op(6, 5, 0, api.MUL), ins.Ret(6)}}, {1, []api.Ins{ins.Const(5, 1), ins.Op(6, 0, 5, api.DIVU), ins.Ret(6)}}, {3, []api.Ins{ins.Const(5, 1), ins.Op(6, 5, 0, api.DIVU), ins.Ret(6)}}, {1, []api.Ins{ins.Const(5, minus(1)), ins.Op(6, 5, 0, api.AND), ins.Ret(6)}}, {3, []api.Ins{ins.Const(5, 255), ins.Op(6, 5, 0, api.AND), ins.Ret(6)}},
		{1, []api.Ins{ins.Op(5, 0, 0, api.XOR), ins.Ret(5)}}, {1, []api.Ins{ins.Op(5, 0, 0, api.SUB), ins.Ret(5)}}, {1, []api.Ins{ins.Op(5, 0, 7, api.MUL), ins.Ret(5)}}, {1, []api.Ins{ins.Op(5, 0, 7, api.SLTU), ins.Ret(5)}}, {1, []api.Ins{ins.Op(5, 1, 1, api.SLTU), ins.Ret(5)}}, {2, []api.Ins{ins.Op(5, 7, 1, api.SLTU), ins.Ret(5)}}, {2, []api.Ins{ins.Op(5, 1, 7, api.SLT), ins.Ret(5)}},
		// Sums come together.
		{2, []api.Ins{ins.Const(5, 9), ins.Op(6, 0, 5, api.ADD), ins.Op(6, 6, 5, api.ADD), ins.Op(6, 6, 0, api.SUB), ins.Ret(6)}}, {1, []api.Ins{ins.Const(5, 9), ins.Op(6, 0, 5, api.ADD), ins.Op(6, 6, 5, api.SUB), ins.Ret(6)}}, {1, []api.Ins{ins.Const(5, 1<<63), ins.Op(6, 5, 0, api.ADD), ins.Op(6, 5, 6, api.ADD), ins.Ret(6)}}, {4, []api.Ins{ins.Const(5, 9), ins.Op(6, 5, 0, api.SUB), ins.Op(6, 5, 6, api.SUB), ins.Ret(6)}},
		// What is narrow enough isn't made narrower; of what is made narrower twice the second one counts, if it is as narrow.
		{1, []api.Ins{ins.Narrow(5, 0, 8), ins.Ret(5)}}, {2, []api.Ins{ins.Narrow(5, 0, 4), ins.Narrow(5, 5, 8), ins.Ret(5)}}, {2, []api.Ins{ins.Narrow(5, 0, 1), ins.Narrow(5, 5, 4), ins.Ret(5)}}, {3, []api.Ins{ins.Narrow(5, 0, 4), ins.Narrow(5, 5, 1), ins.Ret(5)}}, {3, []api.Ins{ins.Narrow(5, 0, 4), ins.Narrow(6, 5, 1), ins.Narrow(7, 0, 1), ins.Op(6, 6, 7, api.SUB), ins.Put(5), ins.Ret(6)}}, {2, []api.Ins{ins.Op(5, 0, 1, api.SRAW), ins.Narrow(5, 5, 4), ins.Ret(5)}}, {3, []api.Ins{ins.Op(5, 0, 1, api.SRAW), ins.Narrow(5, 5, 1), ins.Ret(5)}}, {2, []api.Ins{ins.Op(5, 0, 1, api.SLT), ins.Narrow(5, 5, 1), ins.Ret(5)}}, {3, []api.Ins{ins.Op(5, 0, 1, api.REMU), ins.Narrow(5, 5, 4), ins.Ret(5)}},
		// To deny thrice is to deny once; what is 0 or 1 is denied twice for nothing.
		{3, []api.Ins{ins.Const(5, 1), ins.Op(6, 0, 5, api.SLTU), ins.Op(7, 6, 5, api.SLTU), ins.Op(8, 7, 5, api.SLTU), ins.Ret(8)}}, {4, []api.Ins{ins.Const(5, 1), ins.Op(6, 0, 5, api.SLTU), ins.Op(6, 6, 5, api.SLTU), ins.Ret(6)}}, {2, []api.Ins{ins.Const(5, 1), ins.Op(7, 0, 1, api.SLT), ins.Op(6, 7, 5, api.SLTU), ins.Op(6, 6, 5, api.SLTU), ins.Ret(6)}},
		// Addresses, keys and locks: where they are is known to themselves; none is 0.
		{2, []api.Ins{ins.Top(5, "v"), ins.Const(6, 8), ins.Op(7, 5, 6, api.ADD), ins.Op(8, 5, 7, api.SLTU), ins.Ret(8)}}, {1, []api.Ins{ins.Top(5, "v"), ins.Const(6, 8), ins.Op(7, 5, 6, api.SUB), ins.Op(8, 5, 7, api.SLTU), ins.Ret(8)}}, {5, []api.Ins{ins.Top(5, "v"), ins.Const(6, 1<<50), ins.Op(7, 5, 6, api.ADD), ins.Op(8, 5, 7, api.SLTU), ins.Ret(8)}}, {5, []api.Ins{ins.Top(5, "v"), ins.Const(6, 4096), ins.Op(7, 5, 6, api.SUB), ins.Op(8, 7, 5, api.SLTU), ins.Ret(8)}}, {5, []api.Ins{ins.Const(6, 8), ins.Op(7, 0, 6, api.ADD), ins.Op(8, 0, 7, api.SLTU), ins.Op(8, 8, 1, api.ADD), ins.Ret(8)}},
		{4, []api.Ins{ins.Top(5, "v"), ins.Top(6, "w"), ins.Op(7, 5, 6, api.SLTU), ins.Ret(7)}}, {2, []api.Ins{ins.Top(5, "v"), ins.Top(6, "v"), ins.Op(7, 5, 6, api.SUB), ins.Const(8, 3), ins.Op(7, 7, 8, api.ADD), ins.Ret(7)}}, {2, []api.Ins{ins.Slot(5, 1), ins.Const(6, 1), ins.Op(7, 8, 5, api.SLTU), ins.Op(7, 7, 6, api.ADD), ins.Ret(7)}}, {1, []api.Ins{ins.Slot(5, 1), ins.Const(6, 1), ins.Op(7, 5, 6, api.SLTU), ins.Ret(7)}}, {2, []api.Ins{ins.Key(5), ins.Const(6, 1), ins.Op(7, 8, 5, api.SLTU), ins.Ret(7)}}, {4, []api.Ins{ins.Lock(5), ins.Const(6, 1), ins.Op(7, 5, 6, api.SLTU), ins.Ret(7)}},
		{5, []api.Ins{ins.Slot(5, 0), ins.Slot(6, 0), ins.Slot(7, 1), ins.Put(5), ins.Put(6), ins.Ret(7)}}, {5, []api.Ins{ins.Key(5), ins.Key(6), ins.Lock(7), ins.Put(5), ins.Put(6), ins.Ret(7)}},
		// What nothing asks for isn't made; but bytes are taken in, blocks made, and all stays in order that tells something.
		{1, []api.Ins{ins.Op(5, 0, 1, api.ADD), ins.Slot(6, 0), ins.Lock(7), ins.Read(0, 8, 9, 10, 11), ins.Narrow(5, 5, 1), ins.Ret(1)}}, {2, []api.Ins{ins.Get(5), ins.Ret(1)}}, {2, []api.Ins{ins.Malloc(0, 5, 6, 7, 8, 9), ins.Ret(1)}}, {2, []api.Ins{ins.Read(0, 8, 9, 10, 11), ins.Ret(10)}}, {1, []api.Ins{ins.Const(5, 1), ins.Const(5, 2), ins.Move(5, 1), ins.Ret(5)}},
	} {
		becomes(t, c.left, fn("f", two, c.l...))
	}
	// Of a function without slots both are 0.
	becomes(t, 1, plain("f", nil, ins.Key(5), ins.Lock(6), ins.Op(5, 5, 6, api.OR), ins.Ret(5)))
	// Keys and locks are near nothing.
	for _, r := range []int{4, 5} {
		becomes(t, 6, plain("f", nil, ins.Const(0, 8), ins.Malloc(0, 1, 2, 3, 4, 5), ins.Const(6, 2000), ins.Op(6, r, 6, api.SUB), ins.Op(7, 6, r, api.SLTU), ins.Ret(7)))
	}
	// A pointer to a new block has one number twice.
	becomes(t, 3, plain("f", nil, ins.Const(0, 8), ins.Malloc(0, 1, 2, 3, 4, 5), ins.Op(6, 1, 2, api.SUB), ins.Op(7, 3, 1, api.SUB), ins.Op(7, 7, 0, api.SUB), ins.Op(6, 6, 7, api.OR), ins.Op(8, 9, 4, api.SLTU), ins.If(8, 9), ins.Put(6), ins.Ret(6)))
}

// P14.2: of a function without Params that but makes numbers, at most two instructions are left, and it answers what it did, all 64 bits.
func TestConstants(t *testing.T) {
	t.Parallel()
	for seed := range 4000 {
		s := chance.New(seed)
		registers := 1 + s.Below(8)
		f := api.Fn{Name: "f"}
		for range registers {
			f.Kinds = append(f.Kinds, 1)
		}
		if s.Below(2) == 0 {
			f.Slots = []int{8}
		}
		for range s.Below(20) {
			x, y, z := s.Below(registers), s.Below(registers), s.Below(registers)
			f.Code = append(f.Code, chance.Pick(&s, ins.Const(x, chance.Pick(&s, edges()...)), ins.Const(x, s.Next()), ins.Move(x, y), ins.Op(x, y, z, 1+s.Below(27)), ins.Op(x, y, z, 1+s.Below(27)), ins.Narrow(x, y, chance.Pick(&s, 1, 4, 8))))
		}
		f.Code = append(f.Code, ins.Ret(s.Below(registers)))
		g := opt.Fn(f)
		shaped(t, f, g)
		if len(g.Code) > 2 {
			t.Fatalf("P14.2: seed %d: %v of %v", seed, g.Code, f.Code)
		}
		main := plain("main", nil, ins.Call("f", nil, []int{0}), ins.Call("show", []int{0}, nil), ins.Ret(0))
		as(t, "seed "+strconv.Itoa(seed), units(main, f, show()), units(main, g, show()), nil, plenty)
	}
	// The numbers are those of chapter 1.
	for op := api.ADD; op <= api.REMUW; op++ {
		for _, x := range edges() {
			for _, y := range edges() {
				want, _ := num.Do(op, x, y)
				g := opt.Fn(plain("f", nil, ins.Const(0, x), ins.Const(1, y), ins.Op(2, 0, 1, op), ins.Ret(2)))
				if len(g.Code) > 2 || len(g.Code) == 2 && g.Code[0].N != want || len(g.Code) == 1 && want != 0 {
					t.Fatalf("P14.2: operation %d of %x and %x: %v", op, x, y, g.Code)
				}
			}
		}
	}
	if r := fat.Run(opt.Unit(units(plain("main", nil, ins.Const(0, 300), ins.Narrow(1, 0, 1), ins.Ret(1)))), nil, 2); r.State != api.Exit || r.Code != 44 {
		t.Errorf("P14.2: %v", r)
	}
}
