package sem_test

import (
	"math"
	"reflect"
	"strings"
	"testing"

	"hauberk/api"
	"hauberk/check"
	"hauberk/parse"
	"hauberk/sem"
)

// plenty is more fuel than the runs need that end.
const plenty = 1000000

// checked is the program of a text that has to be right.
func checked(t *testing.T, text string) api.Program {
	t.Helper()
	p, at, e := parse.Parse(text)
	if e != api.OK {
		t.Fatalf("%q: %d at %d", text, e, at)
	}
	p, at, e = check.Check(p)
	if e != api.OK {
		t.Fatalf("%q: %d at %d", text, e, at)
	}
	return p
}

// ran asks for a run's end and what was put out, whatever the number of its steps.
func ran(t *testing.T, text, input string, want api.Result) {
	t.Helper()
	got := sem.Run(checked(t, text), []byte(input), plenty)
	want.Steps = got.Steps
	if !same(got, want) {
		t.Errorf("P9.1: %s: %v, want %v", text, got, want)
	}
}

// same tells whether two results are, where an empty list may be nil.
func same(a, b api.Result) bool {
	if string(a.Out) != string(b.Out) {
		return false
	}
	a.Out, b.Out = nil, nil
	return reflect.DeepEqual(a, b)
}

// ends asks for Exit.
func ends(t *testing.T, text, out string, code byte) {
	t.Helper()
	ran(t, text, "", api.Result{State: api.Exit, Code: code, Out: []byte(out)})
}

// stuck asks for Stuck.
func stuck(t *testing.T, text, out string, why api.Errno) {
	t.Helper()
	ran(t, text, "", api.Result{State: api.Stuck, Why: why, Out: []byte(out)})
}

// P9.1: the chapter's examples.
func TestExamples(t *testing.T) {
	ends(t, "int main() { putchar('a'); return 3; }", "a", 3)
	stuck(t, "int *p; int main() { return *p; }", "", api.ErrNull)
}

// P9.1: when main ends, so does the run, by the low byte of the answer.
func TestMain(t *testing.T) {
	ends(t, "int main() { }", "", 0)
	ends(t, "int main() { return 255; }", "", 255)
	ends(t, "int main() { return 256 + 7; }", "", 7)
	ends(t, "int main() { return -1; }", "", 255)
	ends(t, "int main() { return 2147483647; putchar('x'); }", "", 255)
	ends(t, "int f() { putchar('f'); return 2; } int main() { if (0) return 1; } int g() { return 3; }", "", 0)
	// Its calls by the program are calls like others.
	ends(t, "int n; int main() { n = n + 1; if (n < 3) { putchar('0' + main()); } return n = n + 1; }", "45", 6)
}

// P9.1: exit stops the run wherever it stands.
func TestExit(t *testing.T) {
	ends(t, "int f(int n) { if (n == 0) exit(9); putchar('0' + n); return f(n - 1); } int main() { while (1) { int x = 1 + f(3); putchar('x'); } return 1; }", "321", 9)
	ends(t, "int main() { exit(300); }", "", 44)
	ends(t, "int main() { exit(-1); }", "", 255)
	ends(t, "int main() { exit(putcharone()); } int putcharone() { putchar('e'); exit(2); return 1; }", "e", 2)
	ends(t, "int main() { exit(256); return 1; }", "", 0)
	ends(t, "int *p; int main() { *p = leave(); } int leave() { exit(4); }", "", 4)
}

// P9.1: what is put out and taken in, byte by byte.
func TestBytes(t *testing.T) {
	ends(t, "int main() { putchar(321); putchar(-1); putchar(0); putchar(-2147483647 - 1 + 'z'); putchar(4294967296 + 'l'); }", "A\xff\x00zl", 0)
	all := ""
	for k := range 256 {
		all += string([]byte{byte(k)})
	}
	echo := "int main() { int c = getchar(); while (c != -1) { if (c < 0) return 1; if (c > 255) return 2; putchar(c); c = getchar(); } return getchar() + getchar() + 10; }"
	ran(t, echo, all, api.Result{State: api.Exit, Code: 8, Out: []byte(all)})
	ran(t, echo, "", api.Result{State: api.Exit, Code: 8})
	ran(t, "int main() { return getchar() * 10 + getchar(); }", "\x07\x03\x05", api.Result{State: api.Exit, Code: 73})
	ran(t, "int main() { long l = getchar(); return l == -1; }", "", api.Result{State: api.Exit, Code: 1})
}

// P9.1: names mean variables of the top, params and locals; the same name may mean several.
func TestNames(t *testing.T) {
	ends(t, "int x; int f(int x) { x = x + 1; { int x = 20; x = x + 1; } return x; } int main() { x = 5; int y = f(x); return y * 10 + x; }", "", 65)
	ends(t, "int a; int b; int f() { return a * 10 + b; } int main() { int b = 9; a = 3; b = 7; return f(); }", "", 30)
	ends(t, "int f; int main() { return f = g(f, 4); } int g(int f, int g) { return f + g; }", "", 4)
	ends(t, "int main() { int x = 1; if (x) int x = 2; else int x = 3; while (x) { int x = 4; break; } return x; }", "", 1)
	// A local isn't known within its own expression.
	ends(t, "int x; int main() { x = 3; int x = x + 1; return x; }", "", 4)
}

// P9.1: all stands as it is, till it is stored to: at the top as long as the run, in a call as long as that.
func TestBlocks(t *testing.T) {
	ends(t, "char c; int i; long l; int *p; int a[3]; int main() { return !c + !i + !l + !p + !a[0] + !a[1] + !a[2]; }", "", 7)
	ends(t, "int n; int f() { int x; x = x + 1; n = n + 1; if (n < 4) f(); return x * 10 + n; } int main() { return f(); }", "", 14)
	ends(t, "int main() { int *q; { int x = 5; q = &x; } { int y = 6; } return *q; }", "", 5)
	ends(t, "void set(int *p, int n) { *p = n; } int main() { int x; set(&x, 7); int a[3]; set(a + 2, 8); set(&a[1], 1); return x * 10 + a[2] + a[1]; }", "", 79)
	ends(t, "int f(int n, int *p) { int x = n; if (n) f(n - 1, &x); putchar('0' + x); if (p) *p = *p + 5; return x; } int main() { return f(2, 0); }", "067", 7)
}

// P9.1: each time that an SLocal is come to, its block is cleared, behind what its expression does.
func TestLocals(t *testing.T) {
	ends(t, "int main() { int i = 0; while (i < 3) { int x; char c; long l; x = x + i; c = c + x; l = l + c; putchar('0' + l); i = i + 1; } }", "012", 0)
	ends(t, "struct s { int a; int *p; long l; }; int main() { int i = 0; while (i < 2) { struct s v; struct s w[2]; int a[3]; if (v.a) return 1; if (v.p) return 2; if (v.l) return 3; if (w[1].a) return 4; if (w[1].p) return 5; if (a[2]) return 6; v.a = 7; v.p = &i; v.l = 8; w[1].a = 9; w[1].p = a; a[2] = 4; i = i + 1; } return 9; }", "", 9)
	ends(t, "int f(int *p) { if (p) return *p; return 1; } int main() { int *q; int i = 0; while (i < 3) { int x = f(q) + 1; q = &x; putchar('0' + x); i = i + 1; } }", "234", 0)
	ends(t, "int *q; int f() { putchar('0' + *q); return 4; } int main() { int n = 0; while (n < 2) { int x; q = &x; x = 7; int y = f(); n = n + 1; } int z = 5; q = &z; return f() + z; }", "775", 9)
	// What was come to isn't left: a pointer to it is good to the end of the call.
	ends(t, "int main() { int *q; int i = 0; while (i < 2) { if (i) { *q = 6; int x = 3; putchar('0' + *q); } else { int x; } { int y; y = y + 1; q = &y; } i = i + 1; } return *q; }", "6", 1)
}

// P9.1: which statements are gone through.
func TestStatements(t *testing.T) {
	ends(t, "int main() { if (1) putchar('a'); if (0) putchar('b'); if (1) putchar('c'); else putchar('d'); if (0) putchar('e'); else putchar('f'); if (1) if (0) putchar('g'); else putchar('h'); ; { } {;} }", "acfh", 0)
	ends(t, "int main() { int i = 0; while (i < 3) { int k = 0; while (1) { k = k + 1; if (k == 2) continue; if (k > 3) break; putchar('0' + k); } i = i + 1; if (i == 2) continue; putchar('a' + i); } return i; }", "13b1313d", 3)
	ends(t, "int main() { while (0) putchar('x'); while (1) { while (1) break; putchar('y'); break; } while (1) { while (1) { return 5; } } }", "y", 5)
	ends(t, "int i; int main() { while ((i = i + 1) < 5) if (i == 2) continue; else if (i == 4) break; else putchar('0' + i); while (i) { i = i - 1; continue; putchar('n'); } return i; }", "13", 0)
	ends(t, "int f(int n) { while (n) { if (n == 3) { { return n; } } n = n - 1; } return 9; } int main() { return f(5) * 10 + f(2); }", "", 39)
	// A condition is a yes, if it is not 0, not just if it is 1, or if it is to something.
	ends(t, "int *p; int main() { if (2) putchar('a'); if (-1) putchar('b'); if (4294967296) putchar('c'); if (p) putchar('d'); p = (int *) malloc(4); if (p) putchar('e'); while (p) { p = 0; putchar('f'); } }", "abcef", 0)
	ends(t, "int *p; char c; int main() { c = 256; if (c) putchar('a'); p = (int *) malloc(4); free(p); if (p) putchar('b'); if (!p) putchar('c'); int *q = p - 1; if (q) putchar('d'); }", "bd", 0)
}

// P9.1: of && and the other one the second, only if the first doesn't settle it.
func TestEither(t *testing.T) {
	const f = "int f(int x) { putchar('0' + x); return x; } int *p(int x) { putchar('p'); if (x) return (int *) malloc(4); return 0; } "
	ends(t, f+"int main() { return (f(0) && f(1)) * 8 + (f(2) && f(0)) * 4 + (f(3) && f(4)) * 2 + (f(1) && 4294967296); }", "020341", 3)
	ends(t, f+"int main() { return (f(0) || f(1)) * 8 + (f(2) || f(0)) * 4 + (f(3) || f(4)) * 2 + (f(0) || f(0)); }", "012300", 14)
	ends(t, f+"int main() { return (p(0) && f(1)) * 8 + (p(1) && f(5)) * 4 + (p(1) && p(0)) * 2 + (p(1) && p(1)); }", "pp5pppp", 5)
	ends(t, f+"int main() { return (p(0) || f(0)) * 8 + (p(1) || f(5)) * 4 + (p(0) || p(0)) * 2 + (p(0) || p(1)); }", "p0ppppp", 5)
	ends(t, f+"int main() { return f(0) || f(0) && f(1) || f(7) || f(8); }", "007", 1)
	ends(t, f+"int *q; int main() { return q && *q || !q; }", "", 1)
	stuck(t, "int *q; int main() { putchar('a'); if (q && *q) putchar('b'); if (q || *q) putchar('c'); }", "a", api.ErrNull)
}

// P9.1: what a call is given and what it answers.
func TestCalls(t *testing.T) {
	ends(t, "int g(int x) { putchar('0' + x); return x; } int f(int a, int b, int c, int d, int e, int f) { return a + b * 2 + c * 4 + d * 8 + e * 16 + f * 32; } int main() { return 100 - f(g(1), g(0), g(1), g(1), g(0), g(2)); }", "101102", 23)
	ends(t, "int f(char c, long l, int i) { if (c == 44) if (l == -1) if (i == 1) return 1; return 0; } int main() { return f(300, -1, 4294967297); }", "", 1)
	ends(t, "char f(int x) { return x; } long g(int x) { return x; } int h(long x) { return x; } int main() { if (f(300) != 44) return 1; if (g(-1) != -1) return 2; if (h(4294967295) != -1) return 3; return 4; }", "", 4)
	ends(t, "int f(int x) { x = x + 1; return x; } int main() { int x = 3; f(x); return f(x) * 10 + x; }", "", 43)
	ends(t, "int odd(int n) { if (n == 0) return 0; return even(n - 1); } int even(int n) { if (n == 0) return 1; return odd(n - 1); } int main() { return odd(7) * 2 + even(7); }", "", 2)
	ends(t, "int fib(int n) { if (n < 2) return n; return fib(n - 1) + fib(n - 2); } int main() { return fib(13); }", "", 233)
	// Without an SReturn, or with one of nothing: 0, or to nothing.
	ends(t, "int f() { 5; } long g() { while (0) return 1; } char h() { if (1) ; } int main() { return f() + g() + h(); }", "", 0)
	ends(t, "int *f() { } void **g() { putchar('g'); } int main() { if (f()) return 1; if (g() == 0) return 2; return 3; }", "g", 2)
	ends(t, "void f(int x) { if (x) return; putchar('f'); } int main() { f(0); f(1); f(0); f(1); return 2; }", "ff", 2)
	ends(t, "int x; int *f() { putchar('f'); return &x; } int main() { *f() = 4; f()[0] = *f() + 1; return x; }", "fff", 5)
}

// P9.1: casts that are written, and those that are put where another type is asked for.
func TestCasts(t *testing.T) {
	ends(t, "int main() { if ((char) 200 != -56) return 1; if ((char) 128 != -128) return 2; if ((char) 127 != 127) return 3; if ((int) 4294967295 != -1) return 4; if ((int) 2147483648 != -2147483647 - 1) return 5; if ((char) 4294967296 != 0) return 6; if ((long) (char) 255 != -1) return 7; if ((int) 2147483647 != 2147483647) return 8; if ((long) 4294967296 != 4294967296) return 9; return 10; }", "", 10)
	ends(t, "char c; int i; long l; int main() { if ((c = 300) != 44) return 1; if ((l = c = 511) != -1) return 2; if ((i = 4294967299) != 3) return 3; if ((l = 4294967299) == 3) return 4; l = i = c = -1; if (l + 1) return 5; c = 127; c = c + 1; if (c != -128) return 6; i = 2147483647; l = i + 1; if (l != -2147483648) return 7; l = i; l = l + 1; if (l != 2147483648) return 8; return 9; }", "", 9)
}

// P9.1: sizes.
func TestSizes(t *testing.T) {
	ends(t, "struct s { char c; long l; int i; }; int main() { return sizeof(char) + sizeof(int) * 2 + sizeof(long) * 4 + sizeof(char *) * 8 + sizeof(struct s) + sizeof(struct s *) + sizeof(void *); }", "", 1+8+32+64+24+8+8)
}

// P9.1: an assignment is first where its left kid is, then its right kid, then the store, and then what was stored.
func TestAssign(t *testing.T) {
	ends(t, "int x; int *f() { putchar('f'); return &x; } int g() { putchar('g'); return 3; } int main() { *f() = g(); f()[g() - 3] = g(); return x; }", "fgfgg", 3)
	ends(t, "int a[4]; int main() { int i = 1; a[i] = i = 3; return a[1] * 10 + a[3]; }", "", 30)
	ends(t, "int a[2]; int *p; int main() { p = a; *p = f(); return a[0] * 10 + a[1]; } int f() { p = p + 1; *p = 4; return 5; }", "", 54)
	ends(t, "struct s { int a; struct s *n; }; struct s u; struct s v; struct s *p; int f() { p = &v; return 6; } int main() { p = &u; p->a = f(); return u.a * 10 + v.a; }", "", 60)
	ends(t, "int x; int y; int main() { x = y = x + 3; return x * 10 + y; }", "", 33)
	ends(t, "int *p; int *q; int main() { int x = 8; p = q = &x; *p = *q + 1; *q = *p + 1; if (p = 0) return 1; if (p == 0) return x; }", "", 10)
	// Nothing is asked of the place ahead of the store.
	stuck(t, "int *p; int put() { putchar('p'); return 1; } int main() { *p = put(); }", "p", api.ErrNull)
	stuck(t, "int a[2]; int put() { putchar('p'); return 1; } int main() { a[2] = put(); }", "p", api.ErrBounds)
	ends(t, "int *p; int set() { free(p); p = (int *) malloc(4); exit(3); } int main() { p = (int *) malloc(4); p[-1] = set(); }", "", 3)
	stuck(t, "int *p; int lose() { free(p); p = 0; putchar('l'); return 3; } int main() { p = (int *) malloc(4); *p = lose(); }", "l", api.ErrGone)
}

// P9.1: a pointer and a nought, either way.
func TestNoughts(t *testing.T) {
	ends(t, "struct s { int a; }; struct s *p; void *v; int **q; int main() { return (p == 0) + (0 == p) * 2 + (p != 0) * 4 + (0 != v) * 8 + (v == 0) * 16 + !q * 32; }", "", 1+2+16+32)
	ends(t, "int *p; int f(int *p) { return (p == 0) + (0 == p) * 2 + (p != 0) * 4 + (0 != p) * 8 + !p * 16; } int main() { int x; p = (int *) malloc(4); if (f(&x) != 12) return 1; if (f(p) != 12) return 2; if (f(p + 9) != 12) return 3; if (f(p - 2305843009213693952) != 12) return 4; free(p); if (f(p) != 12) return 5; if (f(0) != 19) return 6; p = 0; if (f(p) != 19) return 7; if (f(p + 3) != 19) return 8; if (f(&p[4]) != 19) return 9; return 10; }", "", 10)
}

// P9.1, P6: fuel at the ends of what an int may be.
func TestFuelEnds(t *testing.T) {
	p, loop := checked(t, "int main() { putchar('a'); return 1; }"), checked(t, "int main() { while (1) ; }")
	for _, fuel := range []int{math.MinInt, -1 << 32, -1, 0} {
		for _, q := range []api.Program{p, loop} {
			if r := sem.Run(q, nil, fuel); !same(r, api.Result{}) {
				t.Errorf("P9.1: %d of fuel: %v", fuel, r)
			}
		}
		// Nothing begins here, so none is asked for.
		if r := sem.Run(checked(t, "int x; int main() { }"), nil, fuel); !same(r, api.Result{State: api.Exit}) {
			t.Errorf("P9.1: %d of fuel, none needed: %v", fuel, r)
		}
	}
	for _, fuel := range []int{5, 6, 1 << 32, 1<<32 + 2, math.MaxInt} {
		if r := sem.Run(p, nil, fuel); !same(r, api.Result{State: api.Exit, Code: 1, Out: []byte("a"), Steps: 5}) {
			t.Errorf("P9.1: %d of fuel: %v", fuel, r)
		}
	}
}

// P6: calls by the million in one another; were they Go's, its stack would be full, which nothing could catch.
func TestDeep(t *testing.T) {
	ends(t, "int f(int n) { if (n == 0) return 0; return f(n - 1) + 1; } int main() { return f(60000) == 60000; }", "", 1)
	for _, text := range []string{
		"int f() { return f(); } int main() { return f(); }",
		"int f() { return " + strings.Repeat("-(1 + ", 11) + "f()" + strings.Repeat(")", 11) + "; } int main() { f(); }",
		"void f() { { { { { while (1) { if (1) { { { { f(); } } } } } } } } } } int main() { f(); }",
	} {
		const fuel = 8000000
		if r := sem.Run(checked(t, text), nil, fuel); !same(r, api.Result{Steps: fuel}) {
			t.Errorf("P6: %s: %v", text, r)
		}
	}
}

// P6: of programs that no check answered, nothing is meant, but the call ends, and doesn't panic.
func TestNoProgram(t *testing.T) {
	for _, p := range []api.Program{
		{},
		{Vars: []api.Var{{}}},
		{Funcs: []api.Func{{Name: "main", Body: api.Stmt{Kids: []api.Stmt{{Kind: api.SBreak}}}}}},
		{Funcs: []api.Func{{Name: "main", Body: api.Stmt{Kids: []api.Stmt{{Kind: api.SWhile}}}}}},
		{Funcs: []api.Func{{Name: "main", Params: make([]api.Var, 2)}}},
		{Funcs: []api.Func{{Name: "f"}}},
	} {
		if r := sem.Run(p, []byte("abc"), 1000); r.State != api.Fault || len(r.Out) > 0 || r.Steps != 0 {
			t.Errorf("%v: %v", p, r)
		}
	}
	for _, text := range []string{
		"int main() { return x; }", "int main() { f(1); }", "int main() { return *1; }", "int main() { 1 = 2; }", "int main() { v.a; }", "int main() { void x; }",
		"int main() { continue; }", "struct s v; int main() { v; }", "int main(int x) { return x; }", "int f() { main(); } int main() { f() + free(); }", "int main() { putchar(); exit(); }",
	} {
		p, _, e := parse.Parse(text)
		if e != api.OK {
			t.Fatalf("%q: %d", text, e)
		}
		sem.Run(p, []byte("abc"), 1000)
	}
}

// P9.3, P7 (R6, R8): what is handed in stays, and isn't kept; what is answered is new, and the same each time.
func TestKept(t *testing.T) {
	p := checked(t, "struct s { int a; }; struct s v[3]; int n; int f(int x, int y) { int z = x; while (z) { n = n + y; z = z - 1; } return n; } int main() { int c = getchar(); while (c != -1) { putchar(c); c = getchar(); } v[2].a = f(3, 4); return v[2].a; }")
	again := checked(t, "struct s { int a; }; struct s v[3]; int n; int f(int x, int y) { int z = x; while (z) { n = n + y; z = z - 1; } return n; } int main() { int c = getchar(); while (c != -1) { putchar(c); c = getchar(); } v[2].a = f(3, 4); return v[2].a; }")
	room := []byte("abcdefgh")
	input := room[:5]
	var all []api.Result
	for range 3 {
		r := sem.Run(p, input, plenty)
		if r.State != api.Exit || r.Code != 12 || string(r.Out) != "abcde" {
			t.Fatalf("P9.3: %v", r)
		}
		all = append(all, r)
		if !reflect.DeepEqual(p, again) || string(room) != "abcdefgh" {
			t.Fatal("P9.3: what was handed in is another")
		}
	}
	for k := range all[0].Out[:cap(all[0].Out)] {
		all[0].Out[:cap(all[0].Out)][k] = 'X'
	}
	if string(all[1].Out) != "abcde" || string(all[2].Out) != "abcde" || string(room) != "abcdefgh" {
		t.Error("P9.3: an answer's memory is shared")
	}
	copy(room, "zzzzzzzz")
	if string(all[1].Out) != "abcde" {
		t.Error("P9.3: what was handed in is kept")
	}
}
