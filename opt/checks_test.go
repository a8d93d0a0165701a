package opt_test

import (
	"reflect"
	"strconv"
	"testing"

	"hauberk/api"
	"hauberk/chance"
	"hauberk/fat"
	"hauberk/ins"
	"hauberk/opt"
)

// held are the checks of a function, in order.
func held(f api.Fn) []api.Ins {
	var l []api.Ins
	for _, i := range f.Code {
		if i.Op == api.FCheck {
			l = append(l, i)
		}
	}
	return l
}

// P14.2: of checks of the same Args that stand one behind the other one is gone, if the one ahead has its Size or a greater one, unless something goes to it; the first one of a row is what it was.
func TestRows(t *testing.T) {
	t.Parallel()
	for seed := range 3000 {
		s := chance.New(seed)
		f := plain("f", []int{0, 1, 2, 3, 4, 5})
		var want []api.Ins
		leads := 1 + s.Below(3)
		for range leads {
			f.Code = append(f.Code, ins.If(5, 0))
		}
		for range 1 + s.Below(3) {
			f.Code = append(f.Code, ins.Get(0), ins.Get(1), ins.Get(2), ins.Get(3), ins.Get(4), ins.Put(0))
			order := s.Order(5)
			most := 0
			for range 1 + s.Below(5) {
				i := ins.Check(chance.Pick(&s, 1, 4, 8, 8, 16, api.MaxMemory), order...)
				for k := range leads {
					if f.Code[k].To == 0 && s.Below(6) == 0 {
						f.Code[k].To, most = len(f.Code), 0
					}
				}
				f.Code = append(f.Code, i)
				if i.Size > most {
					want, most = append(want, i), i.Size
				}
			}
		}
		for k := range leads {
			if f.Code[k].To == 0 {
				f.Code[k].To = leads
			}
		}
		f.Code = append(f.Code, ins.Ret(0))
		g := opt.Fn(f)
		shaped(t, f, g)
		if !reflect.DeepEqual(held(g), want) {
			t.Fatalf("P14.2: seed %d: %v, want %v, of %v", seed, held(g), want, f.Code)
		}
		called(t, f, g)
	}
}

// P14.2: the first one of a row is what it was, too, where its registers, or those of others, have the same numbers, or it is known to hold.
func TestFirst(t *testing.T) {
	same := ins.Check(8, 5, 6, 7, 8, 9)
	moved := []api.Ins{ins.Move(5, 0), ins.Move(6, 1), ins.Move(7, 2), ins.Move(8, 3), ins.Move(9, 4)}
	whole := []api.Ins{ins.Slot(5, 0), ins.Move(6, 5), ins.Const(7, 8), ins.Op(7, 7, 5, api.ADD), ins.Key(8), ins.Lock(9)}
	for _, c := range []struct {
		ahead []api.Ins
		want  []api.Ins
	}{
		{nil, []api.Ins{same}}, {moved, []api.Ins{same}}, {append([]api.Ins{checks(8)}, moved...), []api.Ins{checks(8), same}}, {whole, []api.Ins{same}},
		{[]api.Ins{ins.Const(5, 3), ins.Const(6, 3), ins.Const(8, 1)}, []api.Ins{same}},
	} {
		f := fn("f", five(), append(c.ahead, same, same, ins.Check(4, 5, 6, 7, 8, 9), same, ins.Put(5), ins.Ret(0))...)
		g := opt.Fn(f)
		shaped(t, f, g)
		if !reflect.DeepEqual(held(g), c.want) {
			t.Errorf("P14.2: %v of %v", g.Code, f.Code)
		}
		called(t, f, g)
	}
}

// pointer makes the five numbers of a slot of 20 bytes, or of the variable w, in registers from 5 on.
func pointer(to string) []api.Ins {
	if to == "slot" {
		return []api.Ins{ins.Slot(5, 1), ins.Move(6, 5), ins.Const(10, 20), ins.Op(7, 5, 10, api.ADD), ins.Key(8), ins.Lock(9)}
	}
	return []api.Ins{ins.Top(5, "w"), ins.Move(6, 5), ins.Const(10, 24), ins.Op(7, 5, 10, api.ADD), ins.Const(8, 1), ins.Const(9, 0)}
}

// P14.1: how many checks are left, where more is known than that two stand one behind the other.
func TestChecks(t *testing.T) {
	far := func(by uint64) []api.Ins { return []api.Ins{ins.Const(10, by), ins.Op(5, 5, 10, api.ADD)} }
	p := ins.Check(8, 5, 6, 7, 8, 9)
	join := func(lists ...[]api.Ins) []api.Ins {
		var all []api.Ins
		for _, l := range lists {
			all = append(all, l...)
		}
		return all
	}
	one := func(l ...api.Ins) []api.Ins { return l }
	small := ins.Check(4, 5, 6, 7, 8, 9)
	for what, c := range map[string]struct {
		left int
		l    []api.Ins
	}{
		// A slot is there as long as its call, where nothing is freed.
		"a slot":                      {0, join(pointer("slot"), one(p))},
		"its last bytes":              {0, join(pointer("slot"), far(12), one(p))},
		"behind its last bytes":       {1, join(pointer("slot"), far(13), one(p))},
		"ahead of it":                 {1, join(pointer("slot"), far(minus(1)), one(p))},
		"far from it":                 {1, join(pointer("slot"), far(1<<50), one(p))},
		"far ahead of it":             {1, join(pointer("slot"), far(1<<63), one(p))},
		"more than it has":            {1, join(pointer("slot"), one(ins.Check(21, 5, 6, 7, 8, 9)))},
		"a slot by another lock":      {1, join(pointer("slot"), one(ins.Move(9, 0), p))},
		"a slot by another key":       {1, join(pointer("slot"), one(ins.Move(8, 3), p))},
		"a slot and another bound":    {1, join(pointer("slot"), one(ins.Move(7, 2), p))},
		"a slot and another base":     {1, join(pointer("slot"), one(ins.Move(6, 1), p))},
		"another slot's bounds":       {1, join(pointer("slot"), one(ins.Slot(5, 0), p))},
		"a slot behind a free":        {1, join(pointer("slot"), one(ins.Free(0, 1, 2, 3, 4), p))},
		"a slot behind a call":        {1, join(pointer("slot"), one(ins.Call("show", []int{0}, nil), p))},
		"a slot behind a block":       {0, join(pointer("slot"), one(ins.Malloc(10, 11, 12, 13, 14, 15), p))},
		"a slot behind other things":  {0, join(pointer("slot"), one(ins.Clear(1), ins.Store(5, 0, 8), ins.Write(5, 0, 1, 2, 3), ins.Get(0), ins.Put(0), p))},
		"a slot twice behind a call":  {1, join(pointer("slot"), one(ins.Call("show", []int{0}, nil), p, ins.Put(0)), far(4), one(p))},
		"a slot that was moved about": {0, join(pointer("slot"), far(minus(500)), one(ins.Move(11, 5)), far(508), one(p))},
		// Variables are there by a lock that anything may have freed: one check tells it of all.
		"a variable":              {1, join(pointer("w"), one(p))},
		"a variable, then on":     {1, join(pointer("w"), one(p), far(16), one(p))},
		"a variable, then behind": {2, join(pointer("w"), one(p), far(17), one(p))},
		"a slot and a variable":   {1, join(pointer("w"), one(p), pointer("slot"), one(p), pointer("w"), one(p))},
		"a variable and a call":   {2, join(pointer("w"), one(p, ins.Call("show", []int{0}, nil)), far(16), one(p))},
		// A new block is there.
		"a block":                {0, one(ins.Const(10, 8), ins.Malloc(10, 5, 6, 7, 8, 9), p)},
		"more than a block has":  {1, one(ins.Const(10, 7), ins.Malloc(10, 5, 6, 7, 8, 9), p)},
		"a block of any size":    {1, one(ins.Malloc(0, 5, 6, 7, 8, 9), p)},
		"a block, the same size": {1, one(ins.Malloc(0, 5, 6, 7, 8, 9), p, ins.Put(0), small)},
		"a block that is freed":  {1, one(ins.Const(10, 8), ins.Malloc(10, 5, 6, 7, 8, 9), ins.Free(5, 6, 7, 8, 9), p)},
		"a block, and another":   {1, one(ins.Const(10, 8), ins.Malloc(10, 5, 6, 7, 8, 9), ins.Malloc(0, 11, 12, 13, 14, 15), p, ins.Check(8, 11, 12, 13, 14, 15))},
		// What was handed over is known from a check on.
		"a param":                   {1, one(checks(8), ins.Put(0), checks(8))},
		"a param, a smaller size":   {1, one(checks(8), ins.Put(0), checks(1))},
		"a param, a greater size":   {2, one(checks(8), ins.Put(0), checks(9))},
		"and again the greater one": {2, one(checks(8), ins.Put(0), checks(4), checks(4), ins.Put(0), checks(8))},
		"near a param":              {1, join(pointer("slot"), one(ins.Const(10, 8), ins.Move(5, 0), ins.Move(6, 0), ins.Op(7, 0, 10, api.ADD), p))},
		"far ahead, by its base":    {1, join(pointer("slot"), far(minus(1<<40)), one(ins.Move(6, 5), p))},
		"three times":               {2, one(checks(4), ins.Put(0), checks(8), ins.Put(0), checks(8))},
		"a copy of it":              {1, one(checks(8), ins.Move(5, 0), ins.Move(6, 1), ins.Move(7, 2), ins.Move(8, 3), ins.Move(9, 4), ins.Get(0), ins.Get(3), p)},
		"other registers":           {2, one(checks(8), ins.Put(0), ins.Check(8, 0, 1, 2, 4, 3))},
		"a value that changed":      {2, one(checks(8), ins.Get(0), checks(8))},
		"a base that changed":       {2, one(checks(8), ins.Load(1, 0, 8), checks(8))},
		"a bound that changed":      {2, one(checks(8), ins.Read(0, 2, 6, 7, 8), checks(8))},
		"a key that changed":        {2, one(checks(8), ins.Malloc(0, 5, 6, 7, 3, 8), checks(8))},
		"a lock that changed":       {2, one(checks(8), ins.Call("show", []int{0}, nil), ins.Op(4, 4, 5, api.ADD), checks(8))},
		"a value that came back":    {1, one(checks(8), ins.Const(10, 4), ins.Op(0, 0, 10, api.ADD), ins.Op(0, 0, 10, api.SUB), checks(8))},
		"another one's lock":        {2, one(checks(8), ins.Get(0), ins.Check(8, 0, 1, 2, 3, 4))},
		"behind a free":             {2, one(checks(8), ins.Free(0, 1, 2, 3, 4), checks(8))},
		"behind a call":             {2, one(checks(8), ins.Call("show", []int{0}, nil), checks(8))},
		"behind what frees nothing": {1, one(checks(8), ins.Store(0, 1, 8), ins.Write(0, 1, 2, 3, 4), ins.Malloc(10, 5, 6, 7, 8, 9), ins.Clear(0), ins.Read(0, 5, 6, 7, 8), checks(8))},
	} {
		f := fn("f", five(), append(c.l, ins.Ret(5))...)
		g := opt.Fn(f)
		shaped(t, f, g)
		if n := len(held(g)); n != c.left {
			t.Errorf("P14.1: %s: %d checks, want %d: %v", what, n, c.left, g.Code)
		}
		called(t, f, g)
	}
	// What is known on one of two ways isn't on the other one: of a lock, and of bounds.
	call := []api.Ins{ins.Call("show", []int{0}, nil)}
	for _, c := range [][]api.Ins{join(pointer("slot"), call, one(ins.If(0, 10), p, ins.Ret(0), p)), join(pointer("slot"), one(ins.Move(5, 0), ins.Move(6, 1), ins.If(0, 11), p, ins.Ret(0), p)), join(pointer("w"), one(ins.If(0, 9), p, ins.Ret(0), p))} {
		f := fn("f", five(), append(c, ins.Ret(5))...)
		if g := opt.Fn(f); len(held(g)) != 2 {
			t.Errorf("P14.1: %v", g.Code)
		}
		called(t, f, opt.Fn(f))
	}
	// A function without slots has no lock that is held.
	f := plain("f", nil, ins.Key(3), ins.Lock(4), ins.Top(0, "v"), ins.Move(1, 0), ins.Const(2, 8), ins.Op(2, 2, 0, api.ADD), checks(8), ins.Ret(0))
	if g := opt.Fn(f); len(held(g)) != 1 {
		t.Errorf("P14.1: %v", g.Code)
	}
	called(t, f, opt.Fn(f))
}

// P14.1: what is known where ways part and come together: a check that all ways go through counts behind it, as long as nothing is freed or changed on any of them.
func TestWays(t *testing.T) {
	for what, c := range map[string]struct {
		left int
		l    []api.Ins
	}{
		"ahead of two ways":         {1, []api.Ins{checks(8), ins.If(0, 4), checks(8), ins.Jump(6), checks(8), ins.Put(0), checks(8), ins.Ret(0)}},
		"on both ways":              {3, []api.Ins{ins.If(0, 3), checks(8), ins.Jump(5), checks(8), ins.Put(0), checks(8), ins.Ret(0)}},
		"beside a way that changes": {1, []api.Ins{checks(8), ins.If(5, 7), ins.If(6, 4), ins.Get(0), ins.Put(0), ins.Get(0), ins.Ret(0), checks(8), ins.Ret(0)}},
		"beside one further on":     {1, []api.Ins{checks(8), ins.If(5, 5), ins.Put(0), checks(8), ins.Ret(0), ins.If(6, 7), ins.Get(0), ins.Put(0), ins.Ret(0)}},
		"beside one that frees":     {1, []api.Ins{checks(8), ins.If(5, 7), ins.If(6, 4), ins.Put(0), ins.Free(0, 1, 2, 3, 4), ins.Put(0), ins.Ret(0), checks(8), ins.Ret(0)}},
		"on one way":                {2, []api.Ins{ins.If(0, 2), checks(8), checks(8), ins.Ret(0)}},
		"freed on one way":          {2, []api.Ins{checks(8), ins.If(0, 3), ins.Free(0, 1, 2, 3, 4), checks(8), ins.Ret(0)}},
		"called on one way":         {2, []api.Ins{checks(8), ins.If(0, 3), ins.Call("show", []int{0}, nil), checks(8), ins.Ret(0)}},
		"changed on one way":        {2, []api.Ins{checks(8), ins.If(0, 3), ins.Get(0), checks(8), ins.Ret(0)}},
		"the same by another way":   {1, []api.Ins{checks(8), ins.If(5, 3), ins.Get(6), checks(8), ins.Ret(0)}},
		"ahead of a loop":           {1, []api.Ins{checks(8), ins.Put(0), checks(8), ins.Get(5), ins.If(5, 1), ins.Ret(0)}},
		"in a loop":                 {1, []api.Ins{ins.Put(0), checks(8), ins.Get(5), ins.Put(5), checks(8), ins.If(5, 0), checks(8), ins.Ret(0)}},
		"at the end of a loop":      {2, []api.Ins{ins.Put(0), checks(8), ins.Free(0, 1, 2, 3, 4), ins.Get(5), checks(8), ins.If(5, 0), ins.Ret(0)}},
		"freed in a loop":           {2, []api.Ins{checks(8), ins.Put(0), checks(8), ins.Free(0, 1, 2, 3, 4), ins.Get(5), ins.If(5, 1), ins.Ret(0)}},
		"freed in a loop in a loop": {2, []api.Ins{checks(8), ins.Get(5), checks(8), ins.If(5, 1), ins.Get(6), ins.If(6, 8), ins.Free(0, 1, 2, 3, 4), ins.Jump(1), ins.Ret(0)}},
		"changed in a loop":         {2, []api.Ins{checks(8), ins.Put(0), checks(8), ins.Op(0, 0, 1, api.ADD), ins.Get(5), ins.If(5, 1), ins.Ret(0)}},
		"changed and back":          {2, []api.Ins{checks(8), ins.Put(0), checks(8), ins.Move(6, 0), ins.Get(0), ins.Move(0, 6), ins.Get(5), ins.If(5, 1), ins.Ret(0)}},
		"to the second of a row":    {2, []api.Ins{checks(8), checks(8), checks(8), ins.Get(5), ins.If(5, 1), ins.Ret(0)}},
		"from the end to the first": {1, []api.Ins{checks(8), ins.Get(5), ins.If(5, 0), ins.Ret(0)}},
		"where no way leads":        {1, []api.Ins{checks(8), ins.Jump(5), ins.Free(0, 1, 2, 3, 4), checks(8), ins.Put(0), checks(8), ins.Ret(0)}},
	} {
		f := fn("f", []int{0, 1, 2, 3, 4, 5, 6}, c.l...)
		g := opt.Fn(f)
		shaped(t, f, g)
		if n := len(held(g)); n != c.left {
			t.Errorf("P14.1: %s: %d checks, want %d: %v", what, n, c.left, g.Code)
		}
		called(t, f, g)
	}
}

// free is a function that frees, by a lock and a key that it is handed, be they whose they may.
func free() api.Fn {
	return plain("free", []int{0, 1}, ins.Const(2, 8), ins.Malloc(2, 3, 4, 5, 6, 7), ins.Free(3, 4, 5, 1, 0), ins.Ret())
}

// P14.1: whose lock is freed, by whom: in any unit anything may be.
func TestFreed(t *testing.T) {
	give := func(key, lock int) []api.Ins { return []api.Ins{ins.Call("free", []int{lock, key}, nil)} }
	here := []api.Ins{ins.Const(10, 8), ins.Malloc(10, 11, 12, 13, 14, 15), ins.Free(11, 12, 13, 8, 9)}
	p := ins.Check(8, 5, 6, 7, 8, 9)
	for _, to := range []string{"slot", "w"} {
		for k, l := range [][]api.Ins{give(8, 9), here} {
			main := fn("main", nil, pointer(to)...)
			main.Code = append(main.Code, p, ins.Put(5))
			main.Code = append(main.Code, l...)
			main.Code = append(main.Code, ins.Put(5), p, ins.Put(5), ins.Ret(0))
			u := units(main, free(), show())
			r := as(t, to+strconv.Itoa(k), u, better(t, u), nil, plenty)
			if r.State != api.Trap || len(r.Out) != 2 || r.Checks != 2 {
				t.Errorf("%s, %d: %v", to, k, r)
			}
		}
	}
	// A callee whose variables are gone ahead of it; a callee that frees the slots of who calls it.
	f := fn("f", nil, append(pointer("w"), p, ins.Put(5), ins.Ret())...)
	u := units(fn("main", nil, ins.Const(0, 1), ins.Call("free", []int{1, 0}, nil), ins.Call("f", nil, nil), ins.Ret(0)), free(), f)
	if r := as(t, "callee", u, better(t, u), nil, plenty); r.State != api.Trap {
		t.Errorf("callee: %v", r)
	}
	f = fn("f", []int{0, 1, 2, 3, 4}, checks(8), ins.Store(0, 0, 8), ins.Call("free", []int{4, 3}, nil), ins.Load(6, 0, 8), ins.Put(6), checks(8), ins.Ret(6))
	u = units(fn("main", nil, append(pointer("slot"), p, ins.Call("f", []int{5, 6, 7, 8, 9}, []int{0}), p, ins.Ret(0))...), free(), f)
	if r := as(t, "caller", u, better(t, u), nil, plenty); r.State != api.Trap || len(r.Out) != 1 {
		t.Errorf("caller: %v", r)
	}
}

// P14.1: a better unit traps where it did, by the same check or by one that is ahead of nothing else.
func TestTraps(t *testing.T) {
	for _, text := range []string{
		"int a[3]; int main() { int i = 0; while (1) { putchar('a' + i); a[i] = i; i = i + 1; } }",
		"int main() { int a[3]; int i = 2; while (1) { putchar('a' + i); a[i] = a[i] + i; i = i - 1; } }",
		"int *p; int f() { int x = 3; p = &x; return *p; } int main() { putchar('0' + f()); putchar('b'); return *p; }",
		"int main() { int *p = (int *) malloc(8); p[1] = 7; putchar('0' + p[1]); free(p); putchar('c'); return p[1]; }",
		"int main() { int *p = (int *) malloc(8); int *q = p; p[1] = 7; putchar('0' + q[1]); free(q); putchar('c'); free(p); }",
		"void f(int *p) { putchar('f'); free(p); } int main() { int *p = (int *) malloc(8); p[0] = 1; f(p); putchar('c'); p[0] = 2; }",
		"struct s { int a; struct s *n; }; int main() { struct s v; struct s *p = &v; while (1) { putchar('d'); p = p->n; p->a = 1; } }",
		"int x; int main() { int *p = &x; if (getchar()) p = 0; putchar('e'); *p = 1; }",
	} {
		u, _ := hardened(t, text)
		b := better(t, u)
		r := as(t, text, u, b, []byte("x"), plenty)
		if less := fat.Run(b, []byte("x"), plenty); r.State != api.Trap || len(r.Out) == 0 || less.Checks >= r.Checks {
			t.Errorf("%s: %v, then %v", text, r, less)
		}
	}
}
