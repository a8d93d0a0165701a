package opt_test

import (
	"testing"

	"hauberk/api"
	"hauberk/fat"
	"hauberk/ins"
)

// P14.1: what no way leads to is gone, and what leads but to the next one; what is led to by a settled number is.
func TestLeads(t *testing.T) {
	two := []int{0, 1}
	for _, c := range []struct {
		left int
		l    []api.Ins
	}{
		// To the next one, past others, by way of others.
		{1, []api.Ins{ins.Jump(1), ins.Ret(0)}}, {1, []api.Ins{ins.If(0, 1), ins.Ret(0)}}, {1, []api.Ins{ins.Jump(3), ins.Put(0), ins.Exit(1), ins.Ret(0)}}, {1, []api.Ins{ins.Jump(3), ins.Ret(0), ins.Ret(1), ins.Jump(1)}}, {1, []api.Ins{ins.Jump(2), ins.Put(0), ins.Jump(4), ins.Put(1), ins.Jump(5), ins.Ret(1)}},
		{2, []api.Ins{ins.Put(0), ins.Ret(0), ins.Put(1), ins.Jump(2)}}, {1, []api.Ins{ins.Exit(1), ins.Put(0), ins.Ret(0)}}, {3, []api.Ins{ins.If(0, 2), ins.Ret(0), ins.Jump(3), ins.Ret(1)}}, {3, []api.Ins{ins.If(0, 3), ins.Ret(0), ins.Put(0), ins.Jump(4), ins.Ret(1)}}, {1, []api.Ins{ins.If(0, 2), ins.Jump(2), ins.Ret(0)}},
		// Round for ever.
		{1, []api.Ins{ins.Jump(0)}}, {1, []api.Ins{ins.Move(5, 0), ins.Jump(0)}}, {1, []api.Ins{ins.Move(5, 0), ins.Op(5, 5, 0, api.ADD), ins.Jump(1)}}, {2, []api.Ins{ins.Put(0), ins.Jump(0)}}, {2, []api.Ins{ins.If(0, 0), ins.Ret(1)}}, {2, []api.Ins{ins.Jump(1), ins.Move(5, 0), ins.If(0, 0), ins.Ret(1)}},
		// A settled number.
		{1, []api.Ins{ins.If(5, 2), ins.Ret(0), ins.Ret(1)}}, {1, []api.Ins{ins.Const(5, 1<<63), ins.If(5, 3), ins.Ret(0), ins.Ret(1)}}, {1, []api.Ins{ins.Op(5, 0, 0, api.XOR), ins.If(5, 3), ins.Ret(0), ins.Ret(1)}}, {1, []api.Ins{ins.Slot(5, 0), ins.If(5, 3), ins.Ret(0), ins.Ret(1)}}, {1, []api.Ins{ins.Key(5), ins.If(5, 3), ins.Ret(0), ins.Ret(1)}}, {4, []api.Ins{ins.Lock(5), ins.If(5, 3), ins.Ret(0), ins.Ret(1)}}, {3, []api.Ins{ins.If(0, 2), ins.Ret(0), ins.Ret(1)}},
		{3, []api.Ins{ins.Get(0), ins.Put(0), ins.If(5, 0), ins.Ret(1)}}, {3, []api.Ins{ins.Const(5, 1), ins.Get(0), ins.Put(0), ins.If(5, 1), ins.Ret(1)}}, {8, []api.Ins{ins.Const(5, 1), ins.Get(0), ins.Put(0), ins.If(5, 5), ins.Ret(1), ins.Move(5, 0), ins.If(5, 1), ins.Ret(0)}},
		// Whether one is 0 is asked of that one: what tells it isn't asked for any more.
		{3, []api.Ins{ins.Const(5, 1), ins.Op(6, 0, 5, api.SLTU), ins.Op(7, 6, 5, api.SLTU), ins.If(7, 5), ins.Ret(0), ins.Ret(1)}}, {3, []api.Ins{ins.Op(6, 5, 0, api.SLTU), ins.If(6, 3), ins.Ret(0), ins.Ret(1)}}, {5, []api.Ins{ins.Const(5, 1), ins.Op(6, 0, 5, api.SLTU), ins.If(6, 4), ins.Ret(0), ins.Ret(1)}},
		{7, []api.Ins{ins.Const(5, 1), ins.Op(6, 0, 5, api.SLTU), ins.Op(7, 6, 5, api.SLTU), ins.Get(0), ins.If(7, 6), ins.Ret(0), ins.Ret(1)}},
		// On to where it leads further on, as things stand.
		{4, []api.Ins{ins.If(0, 3), ins.Put(0), ins.Ret(0), ins.Jump(4), ins.Ret(1)}}, {5, []api.Ins{ins.Const(5, 1), ins.If(0, 3), ins.Move(5, 6), ins.If(5, 6), ins.Put(1), ins.Ret(0), ins.Put(0), ins.Ret(1)}}, {7, []api.Ins{ins.Const(5, 1), ins.If(0, 3), ins.Move(5, 1), ins.If(5, 6), ins.Put(1), ins.Ret(0), ins.Ret(5)}},
	} {
		becomes(t, c.left, fn("f", two, c.l...))
	}
}

// P14.1: conditions of several parts lead where they lead at once: no register is 1 by one of them, and 0 by another one.
func TestEither(t *testing.T) {
	for _, x := range []string{"a && b", "a || b", "a && b && c", "a || b || c", "a && b || c", "(a || b) && c", "!(a && b) || c", "a == b && b != c", "a < b || !c", "!(a || !b) && (c || a) || b == c"} {
		for _, body := range []string{"if (" + x + ") putchar('x'); return a;", "if (" + x + ") putchar('x'); else putchar('y'); return a;", "while (" + x + ") { putchar('x'); if (a) a = a - 1; else { b = 0; c = 0; } }"} {
			u, _ := hardened(t, "int main() { int a = getchar() - 'a'; int b = getchar() - 'a'; int c = getchar() - 'a'; "+body+" }")
			b := better(t, u)
			for _, input := range []string{"aaa", "aab", "aba", "abb", "baa", "bab", "bba", "bbb", "caa", "cbb", "ccc"} {
				as(t, body, u, b, []byte(input), plenty)
			}
			settled := map[int]struct{}{}
			for _, i := range b.Fns[0].Code {
				if _, twice := settled[i.Dst]; i.Op == api.MConst && twice {
					t.Errorf("P14.1: %s: %v", body, b.Fns[0].Code)
				} else if i.Op == api.MConst {
					settled[i.Dst] = struct{}{}
				}
			}
		}
	}
}

// P14.1: what is put out is, with as little fuel as ever: nothing is made ahead of it that wasn't.
func TestAhead(t *testing.T) {
	for _, l := range [][]api.Ins{
		{ins.Put(0), ins.If(0, 0), ins.Const(5, 9), ins.Op(5, 5, 0, api.DIV), ins.Put(5), ins.Ret(5)},
		{ins.Get(0), ins.If(0, 4), ins.Put(0), ins.Ret(0), ins.Const(5, 9), ins.Op(6, 5, 0, api.DIV), ins.Put(6), ins.Get(0), ins.If(0, 4), ins.Ret(6)},
		{ins.Const(5, 9), ins.Get(0), ins.Put(0), ins.Op(6, 5, 5, api.MUL), ins.If(0, 1), ins.Put(6), ins.Ret(6)},
	} {
		u := units(fn("main", nil, l...))
		b := better(t, u)
		for fuel := range 40 {
			as(t, "main", u, b, []byte("abc\x00de"), fuel)
		}
		if r := fat.Run(b, []byte("abc\x00"), plenty); r.State != api.Running && len(r.Out) == 0 {
			t.Errorf("%v", r)
		}
	}
}
