package sem_test

import (
	"bytes"
	"math"
	"testing"

	"hauberk/api"
	"hauberk/sem"
)

// all runs a program with each fuel up to what it needs: with less it is Running, and puts out a beginning of what it does.
func all(t *testing.T, text string, p api.Program, input []byte, limit int) api.Result {
	t.Helper()
	whole := sem.Run(p, input, limit)
	if whole.Steps > limit || whole.Checks != 0 || whole.State == api.Running && whole.Steps != limit {
		t.Fatalf("P9.1: %s: %v with %d of fuel", text, whole, limit)
	}
	out := []byte{}
	for fuel := range whole.Steps {
		r := sem.Run(p, input, fuel)
		if r.State != api.Running || r.Steps != fuel || r.Code != 0 || r.Why != 0 || r.Checks != 0 {
			t.Fatalf("P9.1: %s: %v with %d of fuel", text, r, fuel)
		}
		if !bytes.HasPrefix(r.Out, out) || !bytes.HasPrefix(whole.Out, r.Out) {
			t.Fatalf("P9.2: %s: %q with %d of fuel, %q with less, %q with more", text, r.Out, fuel, out, whole.Out)
		}
		out = r.Out
	}
	if whole.State != api.Running {
		for _, fuel := range []int{whole.Steps, whole.Steps + 1, whole.Steps * 2, math.MaxInt} {
			if r := sem.Run(p, input, fuel); !same(r, whole) {
				t.Fatalf("P9.2: %s: %v with %d of fuel, %v with %d", text, r, fuel, whole, limit)
			}
		}
	}
	return whole
}

// P9.1, P9.2: how much fuel each thing takes.
func TestSteps(t *testing.T) {
	const head = "struct s { int a; struct s *n; }; struct s v; struct s *p; struct s w[2]; int x; char c; long l; int a[3]; int *q; int *none; int f() { } int g(int x, int y) { return y; } void h() { ; } int k(int x) { if (x) return 1; return 2; } "
	const ahead = "p = &v; v.n = &v; q = a; "
	for _, s := range []struct {
		text  string
		want  int
		state int
	}{
		{"", 0, api.Exit}, {";", 1, api.Exit}, {"{ }", 1, api.Exit}, {"{ ; { ; } }", 4, api.Exit}, {"return 0;", 2, api.Exit},
		{"0;", 2, api.Exit}, {"x;", 2, api.Exit}, {"a;", 2, api.Exit}, {"v.a;", 3, api.Exit}, {"p->a;", 4, api.Exit}, {"(*p).a;", 4, api.Exit}, {"p->n->a;", 6, api.Exit},
		{"w[1].a;", 6, api.Exit}, {"*q;", 3, api.Exit}, {"a[1];", 5, api.Exit}, {"a[l];", 4, api.Exit}, {"*(q + 1);", 6, api.Exit}, {"*a;", 3, api.Exit},
		{"&x;", 3, api.Exit}, {"&v;", 3, api.Exit}, {"&v.a;", 4, api.Exit}, {"&p->a;", 5, api.Exit}, {"&*q;", 4, api.Exit}, {"&a[l];", 5, api.Exit}, {"*&x;", 4, api.Exit}, {"&*none;", 4, api.Exit},
		{"-1;", 3, api.Exit}, {"~x;", 3, api.Exit}, {"!x;", 3, api.Exit}, {"!p;", 3, api.Exit}, {"-c;", 4, api.Exit}, {"~l;", 3, api.Exit}, {"!c;", 3, api.Exit},
		{"1 + 2;", 4, api.Exit}, {"1 + l;", 5, api.Exit}, {"c + c;", 6, api.Exit}, {"1 << 2;", 5, api.Exit}, {"l >> l;", 4, api.Exit}, {"1 < 2;", 4, api.Exit},
		{"p == 0;", 4, api.Exit}, {"0 != p;", 4, api.Exit}, {"q + 1;", 5, api.Exit}, {"q - l;", 4, api.Exit},
		{"0 && 1;", 3, api.Exit}, {"1 && 0;", 4, api.Exit}, {"1 || 0;", 3, api.Exit}, {"0 || 1;", 4, api.Exit}, {"p && 1;", 4, api.Exit}, {"none || 1;", 4, api.Exit}, {"0 && 1 || 1;", 5, api.Exit}, {"c && c;", 3, api.Exit},
		{"x = 1;", 4, api.Exit}, {"c = 1;", 5, api.Exit}, {"c = c;", 4, api.Exit}, {"x = x = 1;", 6, api.Exit}, {"a[l] = 1;", 6, api.Exit}, {"*q = 1;", 5, api.Exit},
		{"v.a = 1;", 5, api.Exit}, {"p->a = x;", 6, api.Exit}, {"p = &v;", 5, api.Exit}, {"p = 0;", 4, api.Exit},
		{"(int) 1;", 3, api.Exit}, {"(char) (long) x;", 4, api.Exit}, {"sizeof(long);", 2, api.Exit}, {"(int *) malloc(4);", 4, api.Exit}, {"(int *) malloc(l + 9);", 6, api.Exit},
		{"q = (int *) malloc(sizeof(int)); free(q);", 5 + 3, api.Exit},
		{"f();", 2, api.Exit}, {"g(1, 2);", 4 + 2, api.Exit}, {"g(c, 2);", 5 + 2, api.Exit}, {"h();", 2 + 1, api.Exit}, {"k(0);", 3 + 2 + 2, api.Exit}, {"k(1);", 3 + 2 + 2, api.Exit},
		{"putchar('a');", 3, api.Exit}, {"x = getchar();", 4, api.Exit}, {"putchar(c);", 4, api.Exit}, {"exit(0); x;", 3, api.Exit},
		{"int y;", 1, api.Exit}, {"int y[3];", 1, api.Exit}, {"struct s y;", 1, api.Exit}, {"int y = 3;", 2, api.Exit}, {"char y = 3;", 3, api.Exit}, {"int *y = 0;", 2, api.Exit}, {"int *y = a;", 2, api.Exit}, {"int y = f();", 2, api.Exit},
		{"if (1) ;", 3, api.Exit}, {"if (0) ;", 2, api.Exit}, {"if (0) ; else { }", 3, api.Exit}, {"if (1) { ; } else ;", 4, api.Exit}, {"if (x == 0) ;", 5, api.Exit}, {"if (p) ; else { ; }", 3, api.Exit}, {"if (none) ; else { ; }", 4, api.Exit},
		{"while (0) ;", 2, api.Exit}, {"while (x < 1) x = 1;", 1 + 3 + 4 + 1 + 3, api.Exit}, {"while (1) break;", 3, api.Exit}, {"while (1) { break; }", 4, api.Exit}, {"while (1) { while (1) return 0; }", 7, api.Exit},
		{"int i = 3; while (i = i - 1) ;", 2 + 1 + 5 + 1 + 1 + 5 + 1 + 1 + 5, api.Exit},
		{"int i = 3; while (i = i - 1) continue;", 2 + 1 + 5 + 1 + 1 + 5 + 1 + 1 + 5, api.Exit},
		{"int i = 2; while (i) { i = i - 1; while (1) if (1) break; }", 2 + 1 + 1 + 12 + 1 + 1 + 12 + 1 + 1, api.Exit},
		{"*none; x;", 3, api.Stuck}, {"*none = x; x;", 5, api.Stuck}, {"none[1] = x;", 7, api.Stuck}, {"free(none); x;", 3, api.Stuck}, {"a[3]; x;", 5, api.Stuck}, {"(int *) malloc(0); x;", 4, api.NoRoom},
	} {
		text := head + "int main() { " + ahead + s.text + " }"
		r := all(t, text, checked(t, text), nil, plenty)
		if r.Steps != 5+6+4+s.want || r.State != s.state {
			t.Errorf("P9.1: %s: %d steps, %d, want %d, %d", s.text, r.Steps-15, r.State, s.want, s.state)
		}
	}
}

// P9.1: the chapter's return of 1 + 2 takes four, and what runs without an end takes all.
func TestFuel(t *testing.T) {
	if r := sem.Run(checked(t, "int main() { return 1 + 2; }"), nil, 100); !same(r, api.Result{State: api.Exit, Code: 3, Steps: 4}) {
		t.Errorf("P9.1: %v", r)
	}
	text := "int n; int main() { while (1) { putchar('a' + n % 26); n = n + 1; } }"
	all(t, text, checked(t, text), nil, 500)
	text = "int f(int n) { putchar('a' + n % 26); return f(n + 1); } int main() { f(0); }"
	all(t, text, checked(t, text), nil, 500)
}
