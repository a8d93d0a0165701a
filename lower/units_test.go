package lower_test

import (
	"reflect"
	"slices"
	"testing"

	"hauberk/api"
	"hauberk/lower"
	"hauberk/mid"
)

// rich is a program that has one of nearly all.
const rich = "struct s { char c; long l; struct s *n; }; struct s v; struct s w[3]; char c; int i; long a[5]; int *p; " +
	"long *f(int x, char *p, struct s *q, long l) { if (x && p || !q) return &q->l; else { while (x > 0) { x = x - 1; if (x == 3) continue; if (x != 2) break; } } char b[3]; struct s u; int y = b[x] + sizeof(int); u.c = y << 2; free(q); return a + l; } " +
	"void g() { putchar(getchar() + -1 & ~2 | (char) c * 3); return; } char h() { } " +
	"int main() { g(); p = (int *) malloc(i * 4 + 8); *p = *f(0, &c, 0, 2) % 5 - h(); v.n = &w[1]; { w[2] .l = v.n->l / 2 ^ 1 >> i; } if (p != 0) exit(p[1] <= 3); return (0 == p) + (c < 1) + (c >= 1); }"

// P11.1: Tops are the variables with their sizes, Fns the functions, Params as many, of their kinds.
func TestHeads(t *testing.T) {
	u := lowered(t, "struct s { char c; long l; int i; }; struct t { char a; char b; char c; }; struct s v; char c; struct t w; int i[3]; struct s x[2]; long *p[500]; struct s *q; long l; struct t y[500]; void *n; char m[1]; "+
		"long *f(int x, char *p) { return 0; } void g() { } int main() { return 0; } char h(long a, void *b, struct s *c, char d, int **e, int f) { }")
	tops := []api.Top{{Name: "v", Size: 24}, {Name: "c", Size: 1}, {Name: "w", Size: 3}, {Name: "i", Size: 12}, {Name: "x", Size: 48}, {Name: "p", Size: 4000}, {Name: "q", Size: 8}, {Name: "l", Size: 8}, {Name: "y", Size: 1500}, {Name: "n", Size: 8}, {Name: "m", Size: 1}}
	if !reflect.DeepEqual(u.Tops, tops) {
		t.Errorf("P11.1: %v", u.Tops)
	}
	heads := []struct {
		name  string
		kinds []int
	}{{"f", []int{1, 2}}, {"g", nil}, {"main", nil}, {"h", []int{1, 2, 2, 1, 2, 1}}}
	if len(u.Fns) != len(heads) {
		t.Fatalf("P11.1: %d functions", len(u.Fns))
	}
	for k, h := range heads {
		if f := u.Fns[k]; f.Name != h.name || !slices.Equal(kinds(f, f.Params), h.kinds) {
			t.Errorf("P11.1: %v", f)
		}
	}
	if u = lowered(t, "int main() { }"); len(u.Tops) != 0 || len(u.Fns) != 1 {
		t.Errorf("P11.1: %v", u)
	}
}

func kinds(f api.Fn, registers []int) []int {
	var l []int
	for _, r := range registers {
		l = append(l, f.Kinds[r])
	}
	return l
}

// headed asks of a unit what its program says outright.
func headed(t *testing.T, p api.Program, u api.Unit) {
	t.Helper()
	if len(u.Tops) != len(p.Vars) || len(u.Fns) != len(p.Funcs) {
		t.Fatalf("P11.1: %d variables, %d functions: %v", len(p.Vars), len(p.Funcs), u)
	}
	for k, v := range p.Vars {
		if u.Tops[k].Name != v.Name {
			t.Errorf("P11.1: %s: %v", v.Name, u.Tops[k])
		}
	}
	answers := map[string]int{}
	for k, f := range p.Funcs {
		var want []int
		for _, v := range f.Params {
			want = append(want, kind(v.Type))
		}
		if g := u.Fns[k]; g.Name != f.Name || !slices.Equal(kinds(g, g.Params), want) {
			t.Errorf("P11.1: %s: %v", f.Name, g)
		}
		answers[f.Name] = kind(f.Type)
	}
	for _, f := range u.Fns {
		answering(t, f, answers)
	}
}

// kind is that of a register for a type; 0 of nothing.
func kind(t api.Type) int {
	switch {
	case t.Stars > 0:
		return 2
	case t.Base == api.Void:
		return 0
	}
	return 1
}

// answering asks that each MRet of a function has what it answers, or none of them, and each MCall's Dst likewise.
func answering(t *testing.T, f api.Fn, answers map[string]int) {
	t.Helper()
	for _, i := range f.Code {
		r, want := i.A, answers[f.Name]
		switch i.Op {
		case api.MCall:
			r, want = i.Dst, answers[i.Name]
		case api.MRet:
		default:
			continue
		}
		if (r == -1) != (want == 0) || want != 0 && f.Kinds[r] != want {
			t.Errorf("P11.1: %s: %v, where %d is answered", f.Name, i, want)
		}
	}
}

func TestRich(t *testing.T) {
	headed(t, checked(t, rich), lowered(t, rich))
	for _, input := range []string{"", "a", "\x00"} {
		agree(t, rich, input)
	}
}

// junk writes over all of a list, its spare room too.
func junk[T any](l []T, with T) {
	l = l[:cap(l)]
	for k := range l {
		l[k] = with
	}
}

// spares are lists of the answer, as functions that write over what is behind their ends.
func spares(u api.Unit) []func() {
	var l []func()
	spare := func(list []int) {
		l = append(l, func() { junk(list[len(list):], -77) })
	}
	l = append(l, func() { junk(u.Tops[len(u.Tops):], api.Top{Name: "junk"}) }, func() { junk(u.Fns[len(u.Fns):], api.Fn{Name: "junk"}) })
	for _, f := range u.Fns {
		spare(f.Params)
		spare(f.Kinds)
		spare(f.Slots)
		l = append(l, func() { junk(f.Code[len(f.Code):], api.Ins{Op: -77}) })
		for _, i := range f.Code {
			spare(i.Args)
			spare(i.Outs)
		}
	}
	return l
}

// ruin writes over all of an answer.
func ruin(u api.Unit) {
	for _, f := range u.Fns {
		for _, i := range f.Code {
			junk(i.Args, -77)
			junk(i.Outs, -77)
		}
		junk(f.Params, -77)
		junk(f.Kinds, -77)
		junk(f.Slots, -77)
		junk(f.Code, api.Ins{Op: -77})
	}
	junk(u.Tops, api.Top{Name: "junk"})
	junk(u.Fns, api.Fn{Name: "junk"})
}

// P11.2, P7 (R6, R8): what is handed in stays; answers are new memory, each list of them apart from all others; each is the same.
func TestMemory(t *testing.T) {
	p := checked(t, rich)
	one, two := lower.Unit(p), lower.Unit(p)
	if !reflect.DeepEqual(p, checked(t, rich)) {
		t.Errorf("P11.2: what was handed in is another")
	}
	if !reflect.DeepEqual(one, two) {
		t.Errorf("P7 (R8): %v, then %v", one, two)
	}
	for _, spoil := range spares(one) {
		spoil()
		if !reflect.DeepEqual(one, two) {
			t.Fatalf("P11.2: two lists share spare room: %v", one)
		}
	}
	ruin(one)
	if !reflect.DeepEqual(p, checked(t, rich)) || !reflect.DeepEqual(two, lower.Unit(p)) {
		t.Errorf("P11.2: an answer shares memory with what was handed in, or with another answer")
	}
}

// P11.2: an answer stays, whatever becomes of what was handed in.
func TestKept(t *testing.T) {
	p := checked(t, rich)
	u := lower.Unit(p)
	eachPart(&p, func(s *api.Stmt, x *api.Expr) {
		if s != nil {
			s.Kind, s.Var.Name = api.SReturn, "junk"
		} else {
			x.Kind, x.Name, x.Num = api.ENum, "junk", 77
		}
	})
	junk(p.Vars, api.Var{Name: "junk"})
	if !reflect.DeepEqual(u, lower.Unit(checked(t, rich))) {
		t.Errorf("P11.2: an answer has changed with what was handed in")
	}
}

// eachPart goes through all statements and expressions of a program.
func eachPart(p *api.Program, do func(*api.Stmt, *api.Expr)) {
	var expr func(x *api.Expr)
	expr = func(x *api.Expr) {
		for k := range x.Kids {
			expr(&x.Kids[k])
		}
		do(nil, x)
	}
	var stmt func(s *api.Stmt)
	stmt = func(s *api.Stmt) {
		for k := range s.Exprs {
			expr(&s.Exprs[k])
		}
		for k := range s.Kids {
			stmt(&s.Kids[k])
		}
		do(s, nil)
	}
	for k := range p.Funcs {
		stmt(&p.Funcs[k].Body)
	}
}

// P6: of programs that no check answered nothing is promised, but nothing panics, and each call ends. Each part of one is made another thing, one by one.
func TestSpoilt(t *testing.T) {
	var ways []func(*api.Stmt, *api.Expr)
	for kind := range 14 {
		ways = append(ways, func(s *api.Stmt, x *api.Expr) {
			if s != nil {
				s.Kind = kind - 1
			} else {
				x.Kind = kind - 1
			}
		})
	}
	for _, op := range []string{"", "*", "&", "-", "&&", "==", "<<", "?"} {
		ways = append(ways, func(s *api.Stmt, x *api.Expr) {
			if s != nil {
				s.Exprs = nil
			} else {
				x.Op = op
			}
		})
	}
	for _, of := range []api.Type{{}, {Base: api.Char}, {Base: api.Record, Struct: "s"}, {Base: api.Record, Struct: "none"}, {Base: api.Long, Stars: 1}, {Base: -5, Stars: -1}} {
		ways = append(ways, func(s *api.Stmt, x *api.Expr) {
			if s != nil {
				s.Kids, s.Var = nil, api.Var{Name: "$0", Type: of, Len: -1}
			} else {
				x.Type, x.Kids = of, nil
			}
		})
	}
	count := 0
	p := checked(t, rich)
	eachPart(&p, func(*api.Stmt, *api.Expr) { count++ })
	for _, way := range ways {
		for k := range count {
			p, at := checked(t, rich), 0
			eachPart(&p, func(s *api.Stmt, x *api.Expr) {
				if at == k {
					way(s, x)
				}
				at++
			})
			mid.Run(lower.Unit(p), nil, 300)
		}
	}
	for _, p := range []api.Program{{}, {Funcs: make([]api.Func, 2)}, {Vars: make([]api.Var, 2)}, {Structs: make([]api.Struct, 3)}} {
		lower.Unit(p)
	}
}
