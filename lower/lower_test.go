package lower_test

import (
	"strings"
	"testing"

	"hauberk/api"
	"hauberk/check"
	"hauberk/lower"
	"hauberk/mid"
	"hauberk/parse"
	"hauberk/sem"
)

// plenty is more fuel than the runs need that end.
const plenty = 1000000

// checked is the program of a text that has to be right.
func checked(t *testing.T, text string) api.Program {
	t.Helper()
	p, at, e := parse.Parse(text)
	if e == api.OK {
		p, at, e = check.Check(p)
	}
	if e != api.OK {
		t.Fatalf("%s: %d at %d", text, e, at)
	}
	return p
}

// lowered is the unit of a text, which has to be well formed.
func lowered(t *testing.T, text string) api.Unit {
	t.Helper()
	u := lower.Unit(checked(t, text))
	if !mid.Good(u) {
		t.Fatalf("P11.1: %s: not well formed: %v", text, u)
	}
	return u
}

// same tells whether two runs put out the same and stopped the same way, in however many steps.
func same(a, b api.Result) bool {
	return a.State == b.State && a.Code == b.Code && a.Why == b.Why && string(a.Out) == string(b.Out)
}

// ran asks for what a program and its unit do.
func ran(t *testing.T, text, input string, want api.Result) {
	t.Helper()
	if got := sem.Run(checked(t, text), []byte(input), plenty); !same(got, want) {
		t.Errorf("%s: %v, want %v", text, got, want)
	}
	if got := mid.Run(lowered(t, text), []byte(input), plenty); !same(got, want) {
		t.Errorf("P11.1: the unit of %s: %v, want %v", text, got, want)
	}
}

// ends asks for Exit.
func ends(t *testing.T, text, out string, code byte) {
	t.Helper()
	ran(t, text, "", api.Result{State: api.Exit, Code: code, Out: []byte(out)})
}

// stuck asks for Stuck.
func stuck(t *testing.T, text, out string, why api.Errno) {
	t.Helper()
	ran(t, text, "", api.Result{State: api.Stuck, Why: why, Out: []byte(out)})
}

// agree asks that a unit does what its program does, whatever that is.
func agree(t *testing.T, text, input string) {
	t.Helper()
	ran(t, text, input, sem.Run(checked(t, text), []byte(input), plenty))
}

// P11.1: the chapter's example.
func TestExample(t *testing.T) {
	ends(t, "int main() { return 7; }", "", 7)
}

// P11.1: how a run ends.
func TestEnds(t *testing.T) {
	ends(t, "int main() { }", "", 0)
	ends(t, "int main() { return 256 + 3; }", "", 3)
	ends(t, "int main() { return -1; putchar('x'); }", "", 255)
	ends(t, "int main() { exit(300); putchar('x'); }", "", 44)
	ends(t, "int f(int n) { if (n == 0) exit(9); putchar('0' + n); return f(n - 1); } int main() { while (1) { int x = 1 + f(3); putchar('x'); } }", "321", 9)
	ends(t, "int n; int main() { n = n + 1; if (n < 3) putchar('0' + main()); return n = n + 1; }", "45", 6)
	ends(t, "int *p; int main() { *p = leave(); } int leave() { exit(4); }", "", 4)
	ran(t, "int main() { putchar('a'); char *p = (char *) malloc(0); putchar('b'); }", "", api.Result{State: api.NoRoom, Out: []byte("a")})
	ran(t, "int main() { putchar('a'); char *p = (char *) malloc(4194305); putchar('b'); }", "", api.Result{State: api.NoRoom, Out: []byte("a")})
	ends(t, "int main() { char *p = (char *) malloc(4194304); p[4194303] = 3; return p[4194303]; }", "", 3)
}

// P11.1: a function that ends without an SReturn, or with one of nothing, answers 0, or to nothing.
func TestAnswers(t *testing.T) {
	ends(t, "int f(int n) { if (n) return n; } char g() { } long h() { while (0) return 1; } int main() { return f(0) + f(5) + g() + h(); }", "", 5)
	ends(t, "int x; int *f(int n) { if (n) return &x; } int **g() { } int main() { return (f(0) == 0) + (f(1) == 0) * 2 + !g() * 4; }", "", 5)
	ends(t, "void *w; void *f() { if (w) return w; } void *g(void *p, void **q) { *q = p; return *q; } int main() { return !f() + (g(w, &w) == 0) * 2; }", "", 3)
	ends(t, "int n; void f() { n = n + 1; if (n < 3) return; n = 10; } int main() { f(); f(); putchar('0' + n); f(); return n; }", "2", 10)
	ends(t, "struct s { int a; struct s *n; }; struct s v; struct s *f() { v.a = v.a + 1; return &v; } int main() { f(); f()->a = f()->a * 10; return f()->a; }", "", 31)
	ends(t, "char f(int x) { return x; } long g(char x) { return x; } int main() { return (f(300) == 44) + (g(200) == -56) * 2 + (f(128) < 0) * 4; }", "", 7)
	ends(t, "long f(long a, char b, int c, long d, char e, int g) { return a * 32 + b * 16 + c * 8 + d * 4 + e * 2 + g; } int main() { return f(1, 0, 1, 1, 0, 1); }", "", 45)
}

// P11.1: what is put out and taken in.
func TestBytes(t *testing.T) {
	ends(t, "int main() { putchar(321); putchar(-1); putchar(0); putchar(4294967296 + 'l'); }", "A\xff\x00l", 0)
	echo := "int main() { int c = getchar(); while (c != -1) { putchar(c); c = getchar(); } return getchar() + getchar() + 10; }"
	for _, input := range []string{"", "a", "\x00\xff\x80\x7f"} {
		ran(t, echo, input, api.Result{State: api.Exit, Code: 8, Out: []byte(input)})
	}
	ran(t, "int main() { getchar(); return getchar() * 10 + getchar(); }", "\x09\x07\x03\x05", api.Result{State: api.Exit, Code: 73})
}

// P11.1: all is gone through in order, each once.
func TestOrder(t *testing.T) {
	const f = "int n; int f(int x) { putchar('0' + x); return x; } int *p(int x) { putchar('a' + x); return &n; } int g(int a, int b, int c) { return a * 16 + b * 4 + c; } int a[3]; "
	ends(t, f+"int main() { return f(1) + f(2) * f(3) - g(f(3), f(2), f(1)); }", "123321", 1*1+6-57+256-0)
	ends(t, f+"int main() { *p(1) = *p(2) + f(4); return n; }", "bc4", 4)
	ends(t, f+"int main() { a[f(2)] = f(7); return a[f(2)] + a[f(0)]; }", "2720", 7)
	ends(t, f+"int main() { return (f(1) < f(2)) + (f(3) > f(4)) + (f(5) <= f(5)) + (f(6) >= f(7)); }", "12345567", 2)
	ends(t, f+"int main() { p(0) + f(1) - f(2); p(3)[f(0)]; -f(4); ~f(5); !f(6); !p(4); p(5) == 0; 0 != p(6); (char) f(7); }", "a12d0456efg7", 0)
	// What was loaded stays what it was.
	ends(t, "int x; int main() { x = 2; return x + (x = 5) + x * (x = 3) + x; }", "", 2+5+15+3)
	ends(t, "int x; int f() { x = 9; return 1; } int main() { x = 4; int y = x * 10 + f(); return y + x; }", "", 50)
	ends(t, "int x; int a[2]; int *p; int main() { p = a; a[1] = 3; *p = (p = a + 1) == 0; p = a; return a[0] * 10 + *(p + 1) + (x = x + 1); }", "", 4)
	ends(t, "int x; int y; int main() { x = y = (x = 7) + 1; return x * 10 + y; }", "", 88)
	// Where the left kid is, is told ahead of the right one; what stands there is asked for behind it.
	stuck(t, "int *p; int f() { putchar('f'); return 1; } int main() { *p = f(); }", "f", api.ErrNull)
	stuck(t, "int **p; int f() { putchar('f'); return 1; } int main() { **p = f(); }", "", api.ErrNull)
}

// P11.1: && and two of the sign 124 go through their second kid only if the first doesn't settle it.
func TestEither(t *testing.T) {
	const f = "int x; int f(int n) { putchar('0' + n); return n; } int *p(int n) { putchar('a' + n); if (n) return &x; } "
	for _, c := range []struct {
		x, out string
		code   byte
	}{
		{"f(0) && f(1)", "0", 0}, {"f(2) && f(0)", "20", 0}, {"f(2) && f(3)", "23", 1}, {"f(0) || f(0)", "00", 0}, {"f(0) || f(3)", "03", 1}, {"f(4) || f(3)", "4", 1},
		{"p(0) && f(1)", "a", 0}, {"p(1) && p(0)", "ba", 0}, {"p(1) && p(2)", "bc", 1}, {"p(0) || f(0)", "a0", 0}, {"p(0) || p(3)", "ad", 1}, {"p(1) || f(3)", "b", 1},
		{"f(0) && f(1) || f(2) && f(3)", "023", 1}, {"f(1) && (f(0) || f(2)) && f(0)", "1020", 0}, {"(f(0) || f(2)) + (f(1) && f(3)) * 2", "0213", 3},
		{"!(f(2) && f(3)) + !p(0) * 2 + !p(1) * 4 + !f(0) * 8", "23ab0", 10}, {"f(1) && f(-1)", "1/", 1},
		{"4294967296 && 8589934592", "", 1}, {"!4294967296", "", 0}, {"(long) 0 || 9223372036854775807", "", 1}, {"-1 && 1", "", 1},
	} {
		ends(t, f+"int main() { return "+c.x+"; }", c.out, c.code)
		ends(t, f+"int main() { if ("+c.x+") return 1; return 2; }", c.out, map[bool]byte{true: 1, false: 2}[c.code != 0])
		ends(t, f+"int main() { while ("+c.x+") return 1; return 2; }", c.out, map[bool]byte{true: 1, false: 2}[c.code != 0])
	}
}

// P11.1: statements that lead elsewhere.
func TestStatements(t *testing.T) {
	const put = "void p(int x) { putchar('0' + x); } "
	for _, c := range []struct {
		body, out string
		code      byte
	}{
		{"if (1) p(1); p(2);", "12", 0}, {"if (0) p(1); p(2);", "2", 0}, {"if (1) p(1); else p(2); p(3);", "13", 0}, {"if (0) p(1); else p(2); p(3);", "23", 0},
		{"if (1) if (0) p(1); else p(2); p(3);", "23", 0}, {"if (0) if (0) p(1); else p(2); p(3);", "3", 0}, {"if (0) { if (1) p(1); } else p(2);", "2", 0},
		{"if (0) return 1; else if (0) return 2; else if (1) return 3; else return 4;", "", 3}, {"if (1) ; else p(1); if (0) ; else ;", "", 0}, {"{ { p(1); } ; { } p(2); }", "12", 0},
		{"int i = 0; while (i < 3) { p(i); i = i + 1; } return i;", "012", 3}, {"while (0) p(1); return 2;", "", 2}, {"int i = 3; while (i = i - 1) ; return i + 7;", "", 7},
		{"int i = 0; while (1) { i = i + 1; if (i == 2) continue; if (i == 5) break; p(i); } return i;", "134", 5},
		{"int i = 0; while (i < 3) { int j = 0; while (1) { if (j > i) break; j = j + 1; if (j == 2) continue; p(j); } i = i + 1; if (i == 2) continue; p(9); }", "191139", 0},
		{"int i = 0; while (i < 2) { while (1) { break; } i = i + 1; while (i) { p(i); if (i == 1) break; return 8; } }", "12", 8},
		{"while (1) { while (1) { while (1) return 4; } }", "", 4}, {"int i = 5; while (i) { i = i - 1; if (i == 1) { { break; } } else { { continue; } } } return i;", "", 1},
		{"int i; int *q = &i; while (q) { q = 0; p(1); }", "1", 0}, {"int *q; if (q) p(1); else p(2);", "2", 0}, {"long l = 4294967296; if (l) p(1); while (l) { p(2); l = l - 4294967296; }", "12", 0},
		{"; 1; 1 + 1; int *q; q; return 0;", "", 0},
	} {
		ends(t, put+"int main() { "+c.body+" }", c.out, c.code)
	}
}

// P11.1: a local's block is one for each call, cleared each time that it is come to, behind what its expression has done.
func TestLocals(t *testing.T) {
	ends(t, "int main() { int i = 0; int s = 0; while (i < 3) { int x; x = x + i; s = s + x; i = i + 1; } return s; }", "", 3)
	ends(t, "int main() { int i = 0; int s = 0; while (i < 3) { int a[2]; a[1] = a[1] + 1; s = s + a[1] + a[0]; i = i + 1; } return s; }", "", 3)
	ends(t, "struct s { char c; int *p; }; int main() { int i = 0; int s = 0; while (i < 3) { struct s v; if (v.p) s = s + 8; v.p = &s; s = s + v.c + 1; v.c = 5; i = i + 1; } return s; }", "", 3)
	ends(t, "int main() { int *p; int n; while (n < 2) { int x = n + 3; if (p) putchar('0' + *p); p = &x; *p = *p * 2; n = n + 1; } return *p; }", "4", 8)
	ends(t, "int *p; int f() { if (p) return *p; return 5; } int main() { int i = 0; while (i < 2) { int x = f(); p = &x; x = x + 1; i = i + 1; } return *p; }", "", 7)
	ends(t, "int f(int n) { int x = n; if (n) f(n - 1); putchar('0' + x); return x; } int main() { return f(3); }", "0123", 3)
	ends(t, "int f(int n) { int *p = &n; *p = *p + 1; { int n = 7; n = 8; } return n; } int main() { return f(4) * 10 + f(5); }", "", 56)
	ends(t, "int x; int main() { x = 3; int x = x + 1; { int x = x * 2; x = x + 1; putchar('0' + x); } return x; }", "9", 4)
	ends(t, "int main() { char c = 300; int i = 4294967296 + 5; long l = 4294967296; int *p = 0; int **q = &p; return (c == 44) + (i == 5) * 2 + (l >> 32) * 4 + !*q * 8; }", "", 15)
	stuck(t, "int *p; void f() { int x; p = &x; } int main() { f(); putchar('a'); return *p; }", "a", api.ErrGone)
	stuck(t, "int *f(int x) { return &x; } int main() { int *p = f(3); putchar('a'); *p = 1; }", "a", api.ErrGone)
	stuck(t, "int *f() { int a[2]; return a + 1; } int main() { free(f()); }", "", api.ErrGone)
	ends(t, "int *p; void f(int n) { int x; if (n == 0) p = &x; if (n < 3) f(n + 1); else *p = 7; if (n == 0) putchar('0' + x); } int main() { f(0); }", "7", 0)
}

// P11.1: the least and the greatest that may be: arrays, structs, params, functions with and without anything.
func TestLimits(t *testing.T) {
	s := "struct s { "
	for _, f := range "abcdefghijkl" {
		s += "long *" + string(f) + "; "
	}
	s += "}; struct s v[500]; long n; "
	ends(t, s+"int main() { n = 3; v[499].l = &n; struct s w[500]; w[499].a = v[499].l; return *w[499].a; }", "", 3)
	stuck(t, s+"int main() { struct s w[500]; w[499].l = &n; putchar('a'); w[500].a = 0; }", "a", api.ErrBounds)
	ends(t, "char a[500]; int main() { a[499] = 7; char b[500]; b[499] = a[499]; return b[499] + b[498]; }", "", 7)
	ends(t, "int main() { "+strings.Repeat("{ ", 37)+"return 5; "+strings.Repeat("} ", 37)+"}", "", 5)
	ends(t, "int main() { return "+strings.Repeat("-", 37)+"1; }", "", 255)
	ends(t, "int main() { return 1"+strings.Repeat(" + 1", 1000)+"; }", "", 1001%256)
	ends(t, "int main() { return 1"+strings.Repeat(" && 1", 1000)+"; }", "", 1)
	ends(t, "int f(int n) { if (n == 0) return 0; return f(n - 1) + 1; } int main() { return f(20000) == 20000; }", "", 1)
}
