package lower_test

import (
	"testing"

	"hauberk/api"
)

// P11.1: whether a pointer is to nothing, wherever that is asked.
func TestNothing(t *testing.T) {
	const vars = "struct s { int i; struct s *n; }; struct s v; long *p; long x; void *w; void **u; int a[2]; "
	for _, c := range []struct {
		x    string
		want byte
	}{
		{"p == 0", 1}, {"p != 0", 0}, {"0 == p", 1}, {"0 != p", 0}, {"!p", 1}, {"!!p", 0}, {"!(p + 5)", 1}, {"p - 5 == 0", 1}, {"&x == 0", 0}, {"&x != 0", 1}, {"0 == &x", 0}, {"0 != &x", 1}, {"!&x", 0}, {"a == 0", 0}, {"!a", 0}, {"a - 2 != 0", 1},
		{"v.n == 0", 1}, {"&v.n == 0", 0}, {"w == 0", 1}, {"u == 0", 1}, {"!(u = &w)", 0}, {"*(u = &w) == 0", 1}, {"(p = &x) == 0", 0}, {"(p = 0) == 0", 1}, {"!(p = 0)", 1},
	} {
		ends(t, vars+"int main() { return "+c.x+"; }", "", c.want)
		ends(t, vars+"int main() { if ("+c.x+") return 1; else return 0; }", "", c.want)
	}
	for _, x := range []string{"*p", "p[3]", "*(p - 1)", "v.n->i", "(*v.n).i", "v.n[2].i", "*&*p"} {
		stuck(t, vars+"int main() { putchar('a'); return "+x+"; }", "a", api.ErrNull)
		stuck(t, vars+"int main() { putchar('a'); "+x+"; putchar('b'); }", "a", api.ErrNull)
		stuck(t, vars+"int main() { putchar('a'); "+x+" = 5; }", "a", api.ErrNull)
		ends(t, vars+"int main() { if (&"+x+") return 1; return 2; }", "", 2)
	}
	ends(t, vars+"int f(int *p, struct s *q) { return !p + !q * 2; } int main() { return f(0, 0) * 16 + f(a, &v); }", "", 48)
	ends(t, vars+"int *f() { return 0; } int main() { return f() == 0; }", "", 1)
}

// P11.1: pointers are moved by so many of what they point to; all wraps round.
func TestMoves(t *testing.T) {
	const s = "struct s { char c; long l; int i; }; struct s v[3]; char c[4]; int i[4]; long l[4]; int *p[4]; struct s *q; "
	ends(t, s+"int main() { c[1] = 1; c[3] = 3; char *a = c + 2; return a[-1] * 10 + *(a + 1) + a[1] * (a - 1)[2]; }", "", 22)
	ends(t, s+"int main() { i[0] = 1; i[3] = 3; int *a = i + 3; return *a * 10 + a[-3] + *(a - 3); }", "", 32)
	ends(t, s+"int main() { l[0] = 1; l[2] = 3; long *a = l + 2 - 0; return a[0] * 10 + *(a - 2); }", "", 31)
	ends(t, s+"int main() { p[1] = i + 2; i[2] = 6; int **a = p; a = a + 3; return **(a - 2) + *a[-2] + *p[1]; }", "", 18)
	ends(t, s+"int main() { v[2].l = 7; v[0].i = 2; q = v + 2; q = q - 1; return q[1].l * 10 + (q - 1)->i + (*(q + 1)).c; }", "", 72)
	ends(t, "int a[3]; int main() { int *p = a; a[0] = 1; a[1] = 2; p = p + 1000000; p = p - 999999; p = p - 9223372036854775807; p = p + 9223372036854775807; return *p; }", "", 2)
	ends(t, "long a[3]; int main() { a[1] = 4; return *(a + 2305843009213693953) * 10 + a[-2305843009213693951]; }", "", 44)
	ends(t, "int a[3]; int main() { a[2] = 5; return a[4611686018427387906] + (a - 4611686018427387902)[0]; }", "", 10)
	ends(t, "struct s { int a; int b; int c; }; struct s v[2]; int main() { v[1].c = 6; return (v + 1 - 9223372036854775807 - 9223372036854775807 - 2)->c; }", "", 6)
	for _, x := range []string{"a[3]", "a[-1]", "*(a + 3)", "*(a - 1)", "a[9223372036854775807]", "a[4294967296]", "(&a[1])[2]", "(&a[1])[-2]"} {
		stuck(t, "int a[3]; int main() { putchar('x'); return "+x+"; }", "x", api.ErrBounds)
		stuck(t, "int main() { int a[3]; putchar('x'); "+x+" = 1; }", "x", api.ErrBounds)
	}
}

// P11.1: where a pointer that & makes may point: that of a variable or a field to it alone, that of an element as the one that it was made of.
func TestAddresses(t *testing.T) {
	const s = "struct s { char c; int i; long l; struct s *n; }; struct s v; struct s w[3]; int x; int a[3]; "
	for _, c := range []struct {
		body string
		code byte
		why  api.Errno
	}{
		{"int *p = &x; *p = 3; return x + p[0];", 6, 0}, {"int *p = &x; return p[1];", 0, api.ErrBounds}, {"int *p = &x; return p[-1];", 0, api.ErrBounds}, {"int y; int *p = &y; *p = 2; return y;", 2, 0}, {"int y; int z; int *p = &y; return p[1];", 0, api.ErrBounds},
		{"int *p = &a[1]; p[1] = 4; p[-1] = 5; return a[2] * 10 + a[0];", 45, 0}, {"int *p = &a[1]; return p[2];", 0, api.ErrBounds}, {"int *p = &a[7]; p = &p[-6]; *p = 8; return a[1];", 8, 0}, {"int *p = &*(a + 1); p[1] = 4; p = &*&*p; p[-1] = 1; return a[2] + a[0];", 5, 0},
		{"int *p = &v.i; *p = 4; return v.i;", 4, 0}, {"int *p = &v.i; return p[1];", 0, api.ErrBounds}, {"int *p = &v.i; return p[-1];", 0, api.ErrBounds}, {"char *p = &v.c; return p[1];", 0, api.ErrBounds}, {"struct s **p = &v.n; *p = &v; return v.n == 0;", 0, 0},
		{"struct s *p = &v; p->l = 5; p->n = p; p->n->n->i = 2; return v.l * 10 + v.i;", 52, 0}, {"struct s *p = &v; return p[1].c;", 0, api.ErrBounds}, {"struct s *p = &v; return p[-1].l;", 0, api.ErrBounds},
		{"struct s *p = &w[1]; p[1].i = 5; p[-1].i = 6; return w[2].i * 10 + w[0].i;", 56, 0}, {"int *p = &w[1].i; return p[6];", 0, api.ErrBounds}, {"int *p = &w[3].i; return *p;", 0, api.ErrBounds}, {"int *p = &w[3].i; p = p - 6; return *p;", 0, api.ErrBounds}, {"int *p = &w[-1].i; p = p + 6; return *p;", 0, api.ErrBounds},
		{"int *p = &(w + 1)->i; p = p + 100; *(p - 100) = 3; return w[1].i;", 3, 0}, {"int **p; int *q; p = &q; *p = &v.i; **p = 6; return v.i;", 6, 0},
		{"struct s *p = (struct s *) malloc(sizeof(struct s) * 2); struct s **q = &p; (*q)[1].i = 3; (*q)->n = *q + 1; return p->n->i;", 3, 0},
		{"int *p[2]; p[1] = &x; *p[1] = 3; int **q = p; return **(q + 1);", 3, 0}, {"int *p[2]; p[1] = &x; return *p[0];", 0, api.ErrNull}, {"int *p[2]; p[1] = &x; return *p[2];", 0, api.ErrBounds},
		{"struct s *p = (struct s *) malloc(16); p->c = 1; p->i = 2; p->l = 3; return p->c + p->i + p->l;", 6, 0}, {"struct s *p = (struct s *) malloc(16); p->n = 0;", 0, api.ErrBounds},
	} {
		if c.why != api.OK {
			stuck(t, s+"int main() { "+c.body+" }", "", c.why)
		} else {
			ends(t, s+"int main() { "+c.body+" }", "", c.code)
		}
	}
}

// P11.1: what was stored by one type and is loaded by another, at a pointer that wrapped round into the middle of a struct.
func TestAskew(t *testing.T) {
	const s = "struct s { int *p; long n; int i; char c; }; int x; struct s v[2]; struct s *p; int main() { x = 7; p = v + 0x0aaaaaaaaaaaaaab; "
	ends(t, s+"v->n = 5; if (p->p) return 1; return (p->p == 0) + !p->p; }", "", 2)
	ends(t, s+"v[1].p = &x; if (p->i) return 1; return (p->i == 0) + !p->i; }", "", 2)
	ends(t, s+"p->p = &x; if (v->n) return 1; long n = v->n; p->p = p->p; return *p->p + (n == 0); }", "", 8)
	ends(t, s+"v->n = 4294967296 * 3 + 200; p = v - 0x0aaaaaaaaaaaaaab; return p->i; }", "", 200)
	ends(t, "struct s { char c; int i; int j; }; struct s v[2]; struct s *p; int main() { p = v + 0x2aaaaaaaaaaaaaab; v->i = 384; return (p->c == -128) + (v->i == 384) * 2; }", "", 3)
}

// P11.1: which pointers may be freed, and what is gone then.
func TestFree(t *testing.T) {
	const s = "struct s { char c; int i; }; struct t { int i; }; int x; int a[2]; struct s v; "
	for _, c := range []struct {
		body string
		why  api.Errno
	}{
		{"int *p = (int *) malloc(8); free(p);", api.OK}, {"int *p = (int *) malloc(8); p = p + 1; free(p - 1);", api.OK}, {"int *p = (int *) malloc(8); free(&p[0]);", api.OK}, {"int *p = (int *) malloc(8); free(p + 4611686018427387904);", api.OK}, {"struct t *p = (struct t *) malloc(4); free(&p->i);", api.OK}, {"void **p = (void **) malloc(8); free(p);", api.OK},
		{"int *p = (int *) malloc(8); free(p + 1);", api.ErrFree}, {"struct s *p = (struct s *) malloc(8); free(&p->c);", api.ErrFree}, {"free(&x);", api.ErrFree}, {"free(a);", api.ErrFree}, {"free(&v);", api.ErrFree}, {"int y; free(&y);", api.ErrFree},
		{"int *p = (int *) malloc(8); free(p); free(p);", api.ErrGone}, {"int *p = (int *) malloc(8); free(p); *p = 1;", api.ErrGone}, {"int *p = (int *) malloc(8); free(p); int *q = (int *) malloc(8); *q = 1; return *p;", api.ErrGone}, {"struct s *p = (struct s *) malloc(8); int *q = &p->i; free(p); return *q;", api.ErrGone},
		{"int *p; free(p);", api.ErrNull}, {"struct s *p; free(&p->i);", api.ErrNull},
	} {
		text := s + "int main() { putchar('a'); " + c.body + " putchar('b'); }"
		if c.why != api.OK {
			stuck(t, text, "a", c.why)
		} else {
			ends(t, text, "ab", 0)
		}
	}
	ends(t, "int n; int f() { putchar('f'); n = n + 8; return n; } int main() { int *p = (int *) malloc(f()); p[1] = 1; return n; }", "f", 8)
	ends(t, "int main() { int *p = (int *) malloc(8); int *q = (int *) malloc(8); p[1] = 3; q[1] = 4; free(p); p = (int *) malloc(8); return q[1] * 10 + p[1]; }", "", 40)
}
