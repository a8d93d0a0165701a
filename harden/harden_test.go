package harden_test

import (
	"strings"
	"testing"

	"hauberk/api"
	"hauberk/check"
	"hauberk/fat"
	"hauberk/harden"
	"hauberk/lower"
	"hauberk/mid"
	"hauberk/parse"
)

// plenty is more fuel than the runs need that end.
const plenty = 3000000

// lowered is the unit of a text that has to be right.
func lowered(t *testing.T, text string) api.Unit {
	t.Helper()
	p, at, e := parse.Parse(text)
	if e == api.OK {
		p, at, e = check.Check(p)
	}
	if e != api.OK {
		t.Fatalf("%s: %d at %d", text, e, at)
	}
	return lower.Unit(p)
}

// way is how a hardened unit stops where the unit stops so.
func way(state int) int {
	if state == api.Stuck {
		return api.Trap
	}
	return state
}

// ran holds a unit and its hardened one against what is wanted of the latter.
func ran(t *testing.T, what string, u api.Unit, input string, want api.Result) {
	t.Helper()
	if !mid.Good(u) {
		t.Fatalf("%s: not well formed: %v", what, u)
	}
	h := harden.Unit(u)
	shaped(t, what, u, h)
	if r := mid.Run(u, []byte(input), plenty); way(r.State) != want.State || r.Code != want.Code || string(r.Out) != string(want.Out) {
		t.Errorf("%s: %v, want %v", what, r, want)
	}
	if r := fat.Run(h, []byte(input), plenty); r.State != want.State || r.Code != want.Code || r.Why != api.OK || string(r.Out) != string(want.Out) {
		t.Errorf("P13.2: the hardened unit of %s: %v, want %v", what, r, want)
	}
}

// ends asks for Exit.
func ends(t *testing.T, text, out string, code byte) {
	t.Helper()
	ran(t, text, lowered(t, text), "", api.Result{State: api.Exit, Code: code, Out: []byte(out)})
}

// traps asks for Trap.
func traps(t *testing.T, text, out string) {
	t.Helper()
	ran(t, text, lowered(t, text), "", api.Result{State: api.Trap, Out: []byte(out)})
}

// P13.1, P13.2: the chapter's examples.
func TestExamples(t *testing.T) {
	traps(t, "int main() { int *p; return *p; }", "")
	r := fat.Run(harden.Unit(lowered(t, "int *p; int main() { putchar('x'); return *p; }")), nil, plenty)
	if r.State != api.Trap || string(r.Out) != "x" || r.Checks != 2 {
		t.Errorf("P13.1: %v", r)
	}
}

// P13.2: what has nothing to do with memory.
func TestNumbers(t *testing.T) {
	ends(t, "int main() { }", "", 0)
	ends(t, "int main() { return 256 + 3; }", "", 3)
	ends(t, "int main() { putchar('a'); exit(300); putchar('x'); }", "a", 44)
	ends(t, "int f(int n) { if (n == 0) exit(9); putchar('0' + n); return f(n - 1); } int main() { while (1) { int x = 1 + f(3); putchar('x'); } }", "321", 9)
	ends(t, "int main() { int i = 0; while (1) { i = i + 1; if (i == 2) continue; if (i == 5) break; putchar('0' + i); } return i; }", "134", 5)
	ends(t, "int main() { int x = 7; long y = x * 3 - 1 << 2; return (char) (y / 3 % 7 + (y > x) + (y & 6 | 1 ^ x)) + !x + ~x + -x; }", "", 253)
	const echo = "int main() { int c = getchar(); while (c != -1) { putchar(c); c = getchar(); } return c; }"
	for _, input := range []string{"", "a", "\x00\xff\x80z"} {
		ran(t, echo, lowered(t, echo), input, api.Result{State: api.Exit, Code: 255, Out: []byte(input)})
	}
}

// P13.2: what is stored is loaded, be it in variables, locals, params or new blocks, of each type.
func TestStored(t *testing.T) {
	ends(t, "char c; int i; long l; int main() { c = 200; i = 4294967296 + 5; l = 4294967296; return (c == -56) + (i == 5) * 2 + (l >> 32) * 4; }", "", 7)
	ends(t, "int main() { char c = 200; int i = 4294967296 + 5; long l = 4294967296; return (c == -56) + (i == 5) * 2 + (l >> 32) * 4; }", "", 7)
	ends(t, "int f(char c, int i, long l) { c = c + 1; return (c == -55) + (i == 5) * 2 + (l >> 32) * 4; } int main() { return f(200, 4294967296 + 5, 4294967296); }", "", 7)
	ends(t, "int main() { long l = 1; l = l << 63; l = -l - 1; long *p = &l; return (*p == 9223372036854775807) + (*p + 1 < 0) * 2; }", "", 3)
	ends(t, "struct s { char c; int i; long l; struct s *n; }; int main() { struct s *p = (struct s *) malloc(2 * sizeof(struct s)); p[1].c = 1; p[1].i = 2; p[1].l = 3; p[1].n = p; p->n = p + 1; return p->n->c + p->n->i * 2 + p->n->l * 4 + (p->n->n->c == 0) * 32; }", "", 1+4+12+32)
	ends(t, "char a[4]; int b[4]; long c[4]; int main() { int i = 0; while (i < 4) { a[i] = i + 1; b[i] = a[i] * 2; c[i] = b[i] * 2; i = i + 1; } return a[0] + b[1] + c[3] + a[3]; }", "", 1+4+16+4)
	ends(t, "int main() { int *p = (int *) malloc(4); return *p; }", "", 0)
	ends(t, "int main() { int i = 0; int s = 0; while (i < 3) { int a[2]; a[1] = a[1] + 1; s = s + a[1] + a[0]; i = i + 1; } return s; }", "", 3)
}

// P13.2: pointers that are stored and loaded, handed over and answered point where they did, and may do there what they might.
func TestPointers(t *testing.T) {
	ends(t, "long *g[2]; int main() { long x = 6; g[1] = &x; if (g[0]) return 1; return *g[1]; }", "", 6)
	ends(t, "int a[3]; int main() { int *p = a + 1; int **q = &p; int ***r = &q; **q = 4; *q = *q + 1; ***r = 5; return a[1] * 10 + a[2]; }", "", 45)
	ends(t, "int a[3]; int *f(int x, int *p, int y, int **q) { *q = p + x; return *q + y; } int main() { int *p; a[1] = 3; a[2] = 4; int *q = f(1, a, 1, &p); return *p * 10 + *q; }", "", 34)
	ends(t, "struct s { int *p; struct s *n; }; int a[2]; int main() { struct s v; struct s w; v.n = &w; w.n = &v; v.n->n->p = a; *v.p = 7; w.p = v.p + 1; *v.n->p = 2; return a[0] * 10 + a[1]; }", "", 72)
	ends(t, "int *f(int *p, int n) { if (n == 0) return p; return f(p + 1, n - 1); } int a[5]; int main() { a[4] = 9; return *f(a, 4); }", "", 9)
	ends(t, "int *p; int *f() { putchar('f'); return p; } int main() { int x = 3; p = &x; f(); f(); return *f(); }", "fff", 3)
	traps(t, "int a[3]; int *f(int *p) { return p + 1; } int main() { a[2] = 5; putchar('0' + *f(a + 1)); return *f(f(f(a))); }", "5")
	traps(t, "struct s { int *p; }; int main() { struct s v; int x = 1; v.p = &x; putchar('0' + *v.p); int **q = &v.p; return (*q)[1]; }", "1")
	traps(t, "int main() { int a[2]; int *p[2]; p[1] = a; p[1][1] = 6; putchar('0' + a[1]); p[1] = p[0]; return p[1][1]; }", "6")
	traps(t, "int *f() { return 0; } int main() { putchar('a'); return *f(); }", "a")
	traps(t, "int *f() { } int main() { putchar('a'); return *f(); }", "a")
}

// P13.2: a pointer to nothing is one wherever it has moved, or come from; no other one is.
func TestNothing(t *testing.T) {
	const vars = "struct s { int i; struct s *n; }; struct s v; long *p; long x; void *w; void **u; int a[2]; "
	for _, c := range []struct {
		x    string
		want byte
	}{
		{"p == 0", 1}, {"p != 0", 0}, {"0 == p", 1}, {"!p", 1}, {"!!p", 0}, {"!(p + 5)", 1}, {"p - 5 == 0", 1}, {"(p = p + 9) == 0", 1}, {"&p[3] == 0", 1}, {"&x == 0", 0}, {"!(&x - 512)", 0}, {"!&x", 0}, {"!a", 0}, {"a - 2 != 0", 1}, {"!(a - 1024)", 0},
		{"v.n == 0", 1}, {"&v.n == 0", 0}, {"!&v.n->n", 1}, {"!&v.n[9].n", 1}, {"w == 0", 1}, {"!(u = &w)", 0}, {"*(u = &w) == 0", 1}, {"(p = &x) == 0", 0}, {"(p = 0) == 0", 1}, {"p && x", 0}, {"a && 1", 1}, {"p || a", 1},
		{"(p = (long *) malloc(8)) == 0", 0}, {"!(p = (long *) malloc(8) + 3)", 0}, {"!&(p = (long *) malloc(8))[9]", 0},
	} {
		ends(t, vars+"int main() { return "+c.x+"; }", "", c.want)
		ends(t, vars+"int main() { if ("+c.x+") return 1; return 0; }", "", c.want)
	}
	for _, x := range []string{"*p", "p[3]", "*(p - 1)", "p[512]", "v.n->i", "(*v.n).i", "v.n[2].i", "v.n[256].i", "*&*p"} {
		traps(t, vars+"int main() { putchar('a'); return "+x+"; }", "a")
		traps(t, vars+"int main() { putchar('a'); "+x+" = 5; }", "a")
		ends(t, vars+"int main() { if (&"+x+") return 1; return 2; }", "", 2)
	}
	// One whose block is gone isn't one.
	ends(t, "int main() { int *p = (int *) malloc(4); free(p); return !p; }", "", 0)
	ends(t, "int *f() { int x; return &x; } int main() { return f() == 0; }", "", 0)
}

// P13.2: what is outside a block, or a part of one, traps, wherever the pointer came from; what is inside doesn't, wherever it was meanwhile.
func TestBounds(t *testing.T) {
	for _, at := range []string{"a[3]", "a[-1]", "*(a + 3)", "*(a - 1)", "a[9223372036854775807]", "a[4294967296]", "(&a[1])[2]", "(&a[1])[-2]", "a[-1024]", "a[-1025]", "a[524288]", "a[4611686018427387903]", "a[2305843009213693952]"} {
		for _, text := range []string{
			"int a[3]; int b[3]; int main() { putchar('x'); @; }", "int main() { int b[3]; int a[3]; int c[3]; putchar('x'); @; }", "int main() { int *a = (int *) malloc(12); int *b = (int *) malloc(12); putchar('x'); @; }",
			"int f(int *a) { putchar('x'); @; } int b[3]; int c[3]; int main() { return f(c); }",
		} {
			traps(t, strings.Replace(text, "@", "return "+at, 1), "x")
			traps(t, strings.Replace(text, "@", at+" = 1", 1), "x")
		}
	}
	ends(t, "int a[3]; int main() { int *p = a; a[1] = 2; p = p + 1000000; p = p - 999999; p = p - 9223372036854775807; p = p + 9223372036854775807; return *p; }", "", 2)
	ends(t, "long a[3]; int main() { a[1] = 4; return *(a + 2305843009213693953) * 10 + a[-2305843009213693951]; }", "", 44)
	ends(t, "int a[4]; int main() { int *p = a - 5000; p[5003] = 7; p = a + 4; return p[-1]; }", "", 7)
	ends(t, "char a[3]; int main() { char *p = a + 3; p[-1] = 5; return a[2]; }", "", 5)
	traps(t, "char a[3]; char b[13]; int main() { return a[3]; }", "")
	traps(t, "int main() { long *p = (long *) malloc(12); putchar('a'); p[1] = 9; }", "a")
	ends(t, "int main() { int *p = (int *) malloc(15); p[2] = 9; return p[2]; }", "", 9)
	traps(t, "int main() { int *p = (int *) malloc(15); p[3] = 9; return p[2]; }", "")
}

// P13.2: a pointer to a field, or a variable, may point to that alone; one to an element as far as the one that it was made of.
func TestFields(t *testing.T) {
	const s = "struct s { char c; int i; long l; struct s *n; }; struct s v; struct s w[3]; int x; int a[3]; "
	for _, body := range []string{
		"int *p = &v.i; return p[1];", "int *p = &v.i; return p[-1];", "char *p = &v.c; return p[1];", "char *p = &v.c; p[4] = 1;", "long *p = &v.l; p[-1] = 0;", "struct s **p = &v.n; p[1] = 0;", "long *p = &w[1].l; return p[3];", "struct s *p = w + 3; return p->i;", "struct s *p = w - 1; return p->l;",
		"int *p = &x; return p[1];", "int *p = &x; return p[-1];", "int y; int z; int *p = &y; return p[1];", "int *p = &*(a + 1); return p[2];", "struct s *p = &w[1]; return p[2].c;", "struct s *p = (struct s *) malloc(23); p->n = 0;", "struct s *p = (struct s *) malloc(20); p->n = 0;", "int *p = &w[7].i; return *p;",
		"int *p = &w[3].i; return p[-6];", "long *p = &(w - 1)->l; return p[3];", "return w[3].c;", "return (w + 5 - 6)->c;",
	} {
		traps(t, s+"int main() { putchar('x'); "+body+" }", "x")
	}
	ends(t, s+"int main() { int *p = &v.i; *p = 4; struct s *q = &v; q->l = 2; (&q->n)[0] = q; return v.i + (&v.n->l)[0]; }", "", 6)
	ends(t, s+"int main() { struct s *p = &w[1]; p[1].i = 3; p[-1].i = 4; (p + 5 - 4)->l = 5; return w[2].i + w[0].i * 2 + w[2].l * 4; }", "", 31)
	ends(t, s+"int main() { struct s *p = (struct s *) malloc(20); p->l = 3; struct s **q = &p->n; return p->l + !q * 8; }", "", 3)
	ends(t, s+"int main() { int *p = &v.i + 1; p = p - 1; *p = 9; return v.i; }", "", 9)
}

// P13.2: a pointer that goes round all addresses into the middle of a struct whose fields are all of one size finds no number where a pointer stands, and no pointer where a number does.
func TestAround(t *testing.T) {
	const s = "struct s { long a; long *p; long b; }; struct s v[2]; long x; int main() { x = 4; struct s *q = v + 768614336404564651; "
	ends(t, s+"v[0].b = 6; v[1].a = 7; return q->b + (&q->p == 0) + !q->p * 16; }", "", 7+16)
	ends(t, s+"v[0].p = &x; return *v[0].p + q->a + (q->a = 3) + q->a; }", "", 4+3+3)
	ends(t, s+"q->p = &x; return *q->p + v[0].b + (v[0].b = 3) + !q->p; }", "", 4+3+1)
	traps(t, s+"v[0].p = &x; putchar('0' + *v[0].p); q->a = q->a; return *v[0].p; }", "4")
	traps(t, s+"v[0].p = &x; putchar('0' + *v[0].p); q->a = 4096; return *v[0].p; }", "4")
	traps(t, s+"v[0].b = 4096; return *q->p; }", "")
	ends(t, "struct s { int a; int b; int c; }; struct s v[2]; int main() { v[0].c = 5; v[1].a = 2; struct s *q = v + 3074457345618258603; return q->b * 10 + q->c; }", "", 52)
}

// P13.2: where fields of several sizes would meet so the hardened unit is out of memory, as soon as the pointer is near its block, not ahead of that; where pointers go straight it isn't.
func TestAstray(t *testing.T) {
	const s = "struct s { int a; int b; char c; }; struct s v[2]; struct s *g; int c() { return v[1].a + v[0].c; } struct s *f(struct s *p, long n) { putchar('f'); return p + n; } int main() { int i; putchar('x'); "
	for _, c := range []struct{ body, out string }{
		{"g = v + 3074457345618258603; putchar('y');", "x"}, {"g = v - 3074457345618258603; putchar('y');", "x"}, {"i = v[3074457345618258603].c; putchar('y');", "x"}, {"v[6148914691236517206].a = 5; putchar('y');", "x"}, {"v[3074457345618258603 - 1].a = 5; putchar('y');", "x"}, {"g = &v[3074457345618258604]; putchar('y');", "x"},
		{"g = f(v, 3074457345618258603); putchar('y');", "xf"}, {"g = v + 3074457345618258603 + 5000; putchar('y');", "x"}, {"g = f(v, 3074457345618258603 + 5000); putchar('y'); g = g - 5000; putchar('z');", "xfy"}, {"g = f(f(v, 3074457345618258603 / 2 + 3000), 3074457345618258604 / 2); putchar('y'); f(g, -3000); putchar('z');", "xffyf"},
		{"g = (struct s *) malloc(20); g = f(g, 3074457345618258603 + 1); putchar('y');", "xf"}, {"struct s w; g = &w; putchar('y'); g = g + 3074457345618258603;", "xy"},
	} {
		text := s + c.body + " }"
		if r := holds(t, text, lowered(t, text), nil, 1000); r.State != api.NoRoom || string(r.Out) != c.out {
			t.Errorf("P13.2: %s: %v, want %q", text, r, c.out)
		}
	}
	ends(t, s+"v[1].c = 6; return (v + 1 - 9223372036854775807 - 9223372036854775807 - 2)->c; }", "x", 6)
	ends(t, s+"v[1].c = 6; v[0].b = 1; g = v + 3; g = g - 4; g = g + 2; return g->c * 10 + g[-1].b; }", "x", 61)
	ends(t, s+"g = f(v, 3074457345618258603 + 5000); return g == 0; }", "xf", 0)
	ends(t, s+"g = f(0, 5); g = f(g, -9); g = g - 3; return !g; }", "xff", 1)
	ends(t, s+"g = (struct s *) malloc(32); g[1].c = 4; g = f(g, 2); g->b = 3; g = g - 1; return g->c + g[1].b; }", "xf", 7)
	ends(t, "struct t { char c; int i; long l; }; struct t v[2]; int main() { v[1].i = 7; return v[1152921504606846977].i + (v - 1152921504606846975)->i; }", "", 14)
	traps(t, s+"return v[3074457345618258603 + 5000].b; }", "x")
	traps(t, s+"return v[9223372036854775807].b; }", "x")
	traps(t, s+"return v[2].b; }", "x")
	traps(t, s+"return v[-1].b; }", "x")
}

// P13.2: what is gone traps, be it freed, or a call's that has ended; so does a free that may not be.
func TestGone(t *testing.T) {
	for _, body := range []string{
		"long *p = (long *) malloc(8); free(p); return *p;", "long *p = (long *) malloc(8); free(p); *p = 1;", "long *p = (long *) malloc(8); long *q = p; free(q); return *p;", "long *p = (long *) malloc(8); free(p); p = (long *) malloc(8); free(p); *p = 1;", "long *p = (long *) malloc(8); long *q = p + 1; free(p); q = q - 1; return *q;",
		"long *p = (long *) malloc(8); free(p); free(p);", "long *p = (long *) malloc(16); free(p + 1);", "long *p = (long *) malloc(16); free(p - 1);", "free(&x);", "free(a);", "int y; free(&y);", "int b[3]; free(b);", "int *p; free(p);", "int *p; free(p + 4);", "struct s *p = (struct s *) malloc(16); free(&p->a);", "struct s *p = (struct s *) malloc(16); free(&p->b);",
		"struct s *p = (struct s *) malloc(16); p->b = (int *) malloc(4); int *q = p->b; free(q); return *p->b;", "struct s *p = (struct s *) malloc(16); struct s *q = p; free(p); q->b = 0;", "int *p = f(); return *p;", "int *p = f(); *p = 1;", "int *p = f(); int *q = f(); return *p;", "free(f());", "g = f(); f(); return *g;", "free(f() + 1);",
	} {
		traps(t, "struct s { int a; int *b; }; int x; int a[3]; int *g; int *f() { int x; int y = 3; return &y; } int main() { putchar('x'); "+body+" }", "x")
	}
	ends(t, "int main() { long *p = (long *) malloc(8); free(p); p = (long *) malloc(8); *p = 4; long *q = p; p = p + 3; free(q); return 5; }", "", 5)
	ends(t, "int main() { int *p = (int *) malloc(8); p = p + 1; free(p - 1); return 5; }", "", 5)
	ends(t, "struct s { int *b; }; int main() { struct s *p = (struct s *) malloc(8); p->b = (int *) malloc(4); free(p->b); free(p); return 5; }", "", 5)
	ends(t, "int *p; void f(int n) { int x; if (n == 0) p = &x; if (n < 3) f(n + 1); else *p = 7; if (n == 0) putchar('0' + x); } int main() { f(0); return p == 0; }", "7", 0)
	traps(t, "int *p; void f(int n) { int x; if (n == 1) p = &x; if (n < 3) f(n + 1); else *p = 7; if (n == 0) { putchar('0'); *p = 1; } } int main() { f(0); }", "0")
	traps(t, "int f(int *p, int n) { int x = n; if (n == 3) return *p; return f(&x, n + 1); } int *q; int g(int n) { q = &n; return 0; } int main() { int x = 5; putchar('0' + f(&x, 0)); g(1); g(2); return *q; }", "2")
}

// P13.2: a new block is of from 1 to MaxMemory bytes, if there is room for it; else the run is out of memory.
func TestRoom(t *testing.T) {
	for _, size := range []string{"0", "-1", "4194305", "9223372036854775807", "4294967297", "-4294967295"} {
		text := "int main() { putchar('a'); char *p = (char *) malloc(" + size + "); putchar('b'); }"
		ran(t, text, lowered(t, text), "", api.Result{State: api.NoRoom, Out: []byte("a")})
	}
	ends(t, "int main() { char *p = (char *) malloc(1); *p = 5; char *q = (char *) malloc(1000000); q[999999] = 6; return *p + q[999999]; }", "", 11)
	// The language of addresses has less room than that of blocks: the hardened unit may be out of memory first, behind what was put out.
	for _, text := range []string{"int main() { int i = 0; while (i < 100) { putchar('a'); char *p = (char *) malloc(100000); i = i + 1; } }", "int f(int n) { int a[500]; putchar('a'); if (n) return f(n - 1); return 0; } int main() { return f(5000); }"} {
		want := mid.Run(lowered(t, text), nil, plenty)
		got := fat.Run(harden.Unit(lowered(t, text)), nil, plenty)
		if want.State != api.Exit || got.State != api.NoRoom || len(got.Out) < 10 || !strings.HasPrefix(string(want.Out), string(got.Out)) {
			t.Errorf("P13.2: %s: %v, want a beginning of %v", text, got, want)
		}
	}
}

// P13.2: what runs without an end does so, and puts out the same.
func TestEndless(t *testing.T) {
	for _, text := range []string{
		"int main() { while (1) ; }", "int main() { return main(); }", "int n; int main() { while (1) { putchar('a' + n % 26); n = n + 1; } }", "int f() { return g(); } int g() { return f(); } int main() { f(); }", "int *p; int main() { while (!p) { putchar('x'); } return *p; }",
	} {
		u := lowered(t, text)
		for _, fuel := range []int{0, 1, 10, 1000} {
			if r := holds(t, text, u, nil, fuel); r.State != api.Running {
				t.Errorf("P13.2: %s: %v", text, r)
			}
		}
	}
}
