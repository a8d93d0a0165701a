package sem_test

import (
	"strconv"
	"testing"

	"hauberk/api"
)

// P9.1: pointers are moved by so many of what they point to.
func TestMoves(t *testing.T) {
	const s = "struct s { char c; long l; int i; }; "
	for _, c := range []struct {
		of   string
		size int
	}{{"char", 1}, {"int", 4}, {"long", 8}, {"int *", 8}, {"void *", 8}, {"struct s", 24}, {"struct s *", 8}} {
		cells := c.of + " *p = (" + c.of + " *) malloc(" + strconv.Itoa(5*c.size) + "); "
		if c.of == "struct s" {
			ends(t, s+"int main() { "+cells+"(p + 1)->i = 3; p[4].i = 5; (*(p + 4 - 2)).c = 7; p = p + 3; return p[-2].i * 100 + p[1].i * 10 + (p - 1)->c; }", "", (3*100+57)%256)
			stuck(t, s+"int main() { "+cells+"p[4].i = 1; putchar('a'); p[5].c = 2; }", "a", api.ErrBounds)
			continue
		}
		one := "(" + c.of + ") 1"
		if c.of[len(c.of)-1] == '*' {
			one = "(" + c.of + ") malloc(8)"
			if c.of == "void *" {
				one = "*(void **) malloc(8)"
			}
		}
		ends(t, s+"int main() { "+cells+"p[0] = p[1] = p[2] = p[3] = p[4] = "+one+"; p[2] = 0; *(p + 4) = 0; p = p + 3; return (p[-1] == 0) + (*(p - 1) == 0) * 2 + (p[1] == 0) * 4; }", "", 7)
		stuck(t, s+"int main() { "+cells+"p[4] = 0; putchar('a'); p[5] = 0; }", "a", api.ErrBounds)
		stuck(t, s+"int main() { "+cells+"*(p + 5 - 5) = 0; putchar('a'); *(p - 1) = 0; }", "a", api.ErrBounds)
	}
	// A pointer may be anywhere between, and all wraps round.
	ends(t, "int a[3]; int main() { int *p = a; a[0] = 1; a[1] = 2; p = p + 1000000; p = p - 999999; p = p - 9223372036854775807; p = p + 9223372036854775807; return *p; }", "", 2)
	ends(t, "long a[3]; int main() { a[1] = 4; return *(a + 2305843009213693953) * 10 + a[-2305843009213693951]; }", "", 44)
	ends(t, "int a[3]; int main() { a[2] = 5; return a[4611686018427387906] + (a - 4611686018427387902)[0]; }", "", 10)
	ends(t, "struct s { int a; int b; int c; }; struct s v[2]; int main() { v[1].c = 6; return (v + 1 - 9223372036854775807 - 9223372036854775807 - 2)->c; }", "", 6)
	stuck(t, "char a[3]; int main() { return a[9223372036854775807]; }", "", api.ErrBounds)
	stuck(t, "int a[3]; int main() { return a[4294967296]; }", "", api.ErrBounds)
}

// P9.1: to nothing moves nowhere.
func TestNothing(t *testing.T) {
	const s = "struct s { char c; int i; struct s *n; }; "
	const vars = s + "int *p; struct s *v; char *q; int **r; "
	for _, x := range []string{"*p", "p[3]", "p[0]", "*(p + 1)", "*(p - 1)", "v->i", "(*v).c", "v[2].i", "*q", "*&*p", "*&v->i"} {
		stuck(t, vars+"int main() { putchar('a'); return "+x+"; }", "a", api.ErrNull)
		stuck(t, vars+"int main() { putchar('a'); "+x+" = 5; }", "a", api.ErrNull)
		ends(t, vars+"int main() { if (&"+x+") return 1; return 2; }", "", 2)
	}
	for _, x := range []string{"**r", "v->n->i", "(*v->n).c", "r[1][2]", "*v[1].n->n"} {
		for _, of := range []string{x, "&" + x} {
			if of == "*v[1].n->n" {
				continue // a struct is no value
			}
			stuck(t, vars+"int main() { putchar('a'); "+of+"; putchar('b'); }", "a", api.ErrNull)
		}
	}
	stuck(t, s+"int main() { struct s w; putchar('b'); w.n->i = 1; }", "b", api.ErrNull)
}

// P9.1: where a pointer that & makes may point: that of a variable or a field to it alone, that of an element as the one that it was made of.
func TestAddresses(t *testing.T) {
	const s = "struct s { char c; int i; long l; struct s *n; }; "
	for _, c := range []struct {
		text string
		code byte
		why  api.Errno
	}{
		{"int x; int main() { int *p = &x; *p = 3; return x + p[0]; }", 6, 0},
		{"int x; int main() { int *p = &x; return p[1]; }", 0, api.ErrBounds},
		{"int x; int main() { int *p = &x; return p[-1]; }", 0, api.ErrBounds},
		{"int a[3]; int main() { int *p = &a[1]; p[1] = 4; p[-1] = 5; return a[2] * 10 + a[0]; }", 45, 0},
		{"int a[3]; int main() { int *p = &a[1]; return p[2]; }", 0, api.ErrBounds},
		{"int a[3]; int main() { int *p = &a[7]; p = &p[-6]; *p = 8; return a[1]; }", 8, 0},
		{"int a[3]; int main() { int *p = &*(a + 1); p[1] = 4; p = &*&*p; p[-1] = 1; return a[2] + a[0]; }", 5, 0},
		{"struct s v; int main() { int *p = &v.i; *p = 4; return v.i; }", 4, 0},
		{"struct s v; int main() { int *p = &v.i; return p[1]; }", 0, api.ErrBounds},
		{"struct s v; int main() { int *p = &v.i; return p[-1]; }", 0, api.ErrBounds},
		{"struct s v; int main() { char *p = &v.c; return p[1]; }", 0, api.ErrBounds},
		{"struct s v; int main() { struct s *p = &v; p->l = 5; p->n = p; p->n->n->i = 2; return v.l * 10 + v.i; }", 52, 0},
		{"struct s v; int main() { struct s *p = &v; return p[1].c; }", 0, api.ErrBounds},
		{"struct s v; int main() { struct s *p = &v; return p[-1].l; }", 0, api.ErrBounds},
		{"struct s v[3]; int main() { struct s *p = &v[1]; p[1].i = 5; p[-1].i = 6; return v[2].i * 10 + v[0].i; }", 56, 0},
		{"struct s v[3]; int main() { int *p = &v[1].i; return p[6]; }", 0, api.ErrBounds},
		{"struct s v[3]; int main() { int *p = &v[3].i; return *p; }", 0, api.ErrBounds},
		{"struct s v[3]; int main() { int *p = &v[3].i; p = p - 6; return *p; }", 0, api.ErrBounds},
		{"struct s v[3]; int main() { int *p = &v[-1].i; p = p + 6; return *p; }", 0, api.ErrBounds},
		{"struct s v[3]; int main() { int *p = &(v + 1)->i; p = p + 100; *(p - 100) = 3; return v[1].i; }", 3, 0},
		{"struct s v; int main() { int **p; int *q; p = &q; *p = &v.i; **p = 6; return v.i; }", 6, 0},
		{"int main() { struct s *p = (struct s *) malloc(sizeof(struct s) * 2); struct s **q = &p; (*q)[1].i = 3; (*q)->n = *q + 1; return p->n->i; }", 3, 0},
		{"int f(int x, int *p) { *p = *p + x; x = 9; return *p; } int main() { int x = 4; return f(x, &x) * 10 + x; }", 88, 0},
		{"int f(int x) { int *p = &x; return p[1]; } int main() { return f(3); }", 0, api.ErrBounds},
		{"int main() { int x; int *p[2]; p[1] = &x; *p[1] = 3; int **q = p; return **(q + 1); }", 3, 0},
		{"int main() { int x; int *p[2]; p[1] = &x; return *p[0]; }", 0, api.ErrNull},
		{"int main() { int x; int *p[2]; p[1] = &x; return *p[2]; }", 0, api.ErrBounds},
	} {
		if c.why != api.OK {
			stuck(t, s+c.text, "", c.why)
		} else {
			ends(t, s+c.text, "", c.code)
		}
	}
}

// P9.1: an EField is loaded and stored in its own bounds, whatever its pointer may point to.
func TestFields(t *testing.T) {
	const s = "struct s { char c; int i; long l; int *p; struct s *n; }; struct s v[2]; "
	ends(t, s+"int main() { struct s *p = v + 1; p->c = 300; p->i = 4294967297; p->l = 4294967297; p->p = &p->i; p->n = v; v->l = 7; *p->p = *p->p + 1; if (v[1].c != 44) return 1; if (v[1].i != 2) return 2; if (v[1].l != 4294967297) return 3; if (v[1].n->l != 7) return 4; return v[0].c + v[0].i + 5; }", "", 5)
	// Half a struct is there: what is of it may be used.
	ends(t, s+"int main() { struct s *p = (struct s *) malloc(16); p->c = 1; p->i = 2; p->l = 3; return p->c + p->i + p->l; }", "", 6)
	stuck(t, s+"int main() { struct s *p = (struct s *) malloc(23); p->l = 3; putchar('a'); p->p = 0; }", "a", api.ErrBounds)
	ends(t, s+"int main() { struct s *p = (struct s *) malloc(24); p->l = 3; p->p = 0; putchar('a'); }", "a", 0)
}

// P9.1: where another type's value was stored, a number is loaded as one of its own type, a pointer as one: to nothing, where a number stands. (A third of 2^62 and so on, times 12, is 4, since all wraps round: so a pointer comes to stand askew in a struct.)
func TestAskew(t *testing.T) {
	const numbers = "struct s { char c; int i; int j; }; struct s v[2]; struct s *p; int main() { p = v + 0x2aaaaaaaaaaaaaab; "
	ends(t, numbers+"v->i = 300; return p->c; }", "", 44)
	ends(t, numbers+"v->i = 128; if (p->c == -128) return p->c + 256 - 120; return 1; }", "", 8)
	ends(t, numbers+"v->i = 256; if (p->c) return 1; return !p->c + 1; }", "", 2)
	ends(t, numbers+"v->j = -2; return p->i + 5; }", "", 3)
	ends(t, numbers+"p->c = 200; return v->i + 60; }", "", 4)
	stuck(t, numbers+"p->j = 3; putchar('0' + v[1].c); return (p + 1)->j; }", "3", api.ErrBounds)
	const mixed = "struct s { int *p; long n; int i; }; int x; struct s v[2]; struct s *p; int main() { x = 7; p = v + 0x0aaaaaaaaaaaaaab; "
	ends(t, mixed+"v->n = 5; if (p->p) return 1; if (p->p != 0) return 2; return (p->p == 0) + !p->p; }", "", 2)
	stuck(t, mixed+"v->n = 5; putchar('a'); return *p->p; }", "a", api.ErrNull)
	ends(t, mixed+"v[1].p = &x; if (p->i) return 1; if (p->i != 0) return 2; return (p->i == 0) + !p->i + p->i; }", "", 2)
	ends(t, mixed+"v[1].p = &x; p->i = 3; if (v[1].p) return 1; v[1].p = &x; return *v[1].p; }", "", 7)
	ends(t, mixed+"p->p = &x; if (v->n) return 1; long n = v->n; p->p = p->p; return *p->p + (n == 0) + (v->n == 0); }", "", 9)
	ends(t, mixed+"v->n = 4294967296 * 3 + 8; p = v - 0x0aaaaaaaaaaaaaab; return p->i; }", "", 8)
	ends(t, mixed+"v->n = 4294967296 * 3; p = v - 0x0aaaaaaaaaaaaaab; if (p->i) return 1; return !p->i + (p->i == 0); }", "", 2)
}

// P9.1: malloc, of which numbers there is a block.
func TestMalloc(t *testing.T) {
	for _, n := range []string{"0", "-1", "4194305", "4294967296", "4294967297", "9223372036854775807", "-9223372036854775807 - 1", "-4294967288", "4194304 + 1"} {
		ran(t, "int main() { putchar('a'); char *p = (char *) malloc("+n+"); putchar('b'); }", "", api.Result{State: api.NoRoom, Out: []byte("a")})
	}
	for _, n := range []string{"1", "2", "7", "4194303", "4194304"} {
		ends(t, "int main() { char *p = (char *) malloc("+n+"); long n = "+n+"; if (p[0]) return 1; if (p[n - 1]) return 2; p[n - 1] = 3; p[0] = p[n - 1] + 1; return p[0]; }", "", 4)
		stuck(t, "int main() { char *p = (char *) malloc("+n+"); p["+n+" - 1] = 1; putchar('a'); p["+n+"] = 3; }", "a", api.ErrBounds)
		ends(t, "int main() { char *p = (char *) malloc("+n+"); free(p); }", "", 0)
	}
	ends(t, "int main() { int *p = (int *) malloc(8); int *q = (int *) malloc(8); p[1] = 3; q[1] = 4; free(p); p = (int *) malloc(8); return q[1] * 10 + p[1]; }", "", 40)
	stuck(t, "int main() { int *p = (int *) malloc(3); putchar('a'); return *p; }", "a", api.ErrBounds)
	stuck(t, "int main() { long *p = (long *) malloc(12); putchar('a'); return p[1]; }", "a", api.ErrBounds)
	// Malloc's kid is gone through first, and only once.
	ends(t, "int n; int f() { putchar('f'); n = n + 8; return n; } int main() { int *p = (int *) malloc(f()); p[1] = 1; return n; }", "f", 8)
}

// P9.1: free, of which pointers.
func TestFree(t *testing.T) {
	const s = "struct s { char c; int i; }; struct t { int i; }; int x; int a[2]; struct s v; "
	for _, c := range []struct {
		text string
		why  api.Errno
	}{
		{"int *p = (int *) malloc(8); free(p);", api.OK},
		{"int *p = (int *) malloc(8); p = p + 1; free(p - 1);", api.OK},
		{"int *p = (int *) malloc(8); free(&p[0]);", api.OK},
		{"int *p = (int *) malloc(8); free(p + 4611686018427387904);", api.OK},
		{"int **p = (int **) malloc(8); free(p);", api.OK},
		{"struct t *p = (struct t *) malloc(4); free(&p->i);", api.OK},
		{"int *p = (int *) malloc(8); free(p + 1);", api.ErrFree},
		{"int *p = (int *) malloc(8); free(p - 1);", api.ErrFree},
		{"struct s *p = (struct s *) malloc(8); free(&p->c);", api.ErrFree},
		{"struct s *p = (struct s *) malloc(8); free(&p->i);", api.ErrFree},
		{"struct t *p = (struct t *) malloc(8); free(&p->i);", api.ErrFree},
		{"int *p = (int *) malloc(8); free(p); free(p);", api.ErrGone},
		{"int *p = (int *) malloc(8); free(p); free(p + 1);", api.ErrGone},
		{"int *p = (int *) malloc(8); free(p); p = p - 1; return *p;", api.ErrGone},
		{"int *p = (int *) malloc(8); free(p); *p = 1;", api.ErrGone},
		{"int *p = (int *) malloc(8); free(p); int *q = (int *) malloc(8); *q = 1; return *p;", api.ErrGone},
		{"struct s *p = (struct s *) malloc(8); int *q = &p->i; free(p); return *q;", api.ErrGone},
		{"free(&x);", api.ErrFree},
		{"free(a);", api.ErrFree},
		{"free(&v);", api.ErrFree},
		{"int y; free(&y);", api.ErrFree},
		{"int *p; free(p);", api.ErrNull},
		{"int *p; free(p + 1);", api.ErrNull},
		{"struct s *p; free(&p->i);", api.ErrNull},
	} {
		text := s + "int main() { putchar('a'); " + c.text + " putchar('b'); }"
		if c.why != api.OK {
			stuck(t, text, "a", c.why)
		} else {
			ends(t, text, "ab", 0)
		}
	}
}

// P9.1: the blocks of a call end with it, however it ends; those of others don't.
func TestGone(t *testing.T) {
	for _, f := range []string{
		"{ int x; return &x; }", "{ int x[3]; return x + 1; }", "{ int x; int *q = &x; while (1) { return q; } }", "{ int x; p = &x; }", "{ int x; g(&x); return p; }", "{ while (1) { int x = 4; p = &x; break; } return p; }",
	} {
		stuck(t, "int *p; void g(int *q) { p = q; *p = 3; } int *f() "+f+" int main() { int *q = f(); if (q) p = q; putchar('a'); return *p; }", "a", api.ErrGone)
	}
	stuck(t, "int *p; int *f(int x) { return &x; } int main() { p = f(4); putchar('a'); *p = 3; }", "a", api.ErrGone)
	stuck(t, "int *p; void f(int n) { int x; if (n) p = &x; else f(1); if (n == 0) *p = 4; } int main() { f(0); }", "", api.ErrGone)
	stuck(t, "int *f() { int x; return &x; } int main() { free(f()); }", "", api.ErrGone)
	ends(t, "int *p; void f(int n) { int x; if (n == 0) p = &x; if (n < 3) f(n + 1); else *p = 7; if (n == 0) putchar('0' + x); } int main() { f(0); }", "7", 0)
	ends(t, "int *f() { int *p = (int *) malloc(4); *p = 5; return p; } int main() { int *a = f(); int *b = f(); *b = *b + 1; return *a * 10 + *b; }", "", 56)
}
