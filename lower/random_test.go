package lower_test

import (
	"bytes"
	"reflect"
	"testing"

	"hauberk/api"
	"hauberk/check"
	"hauberk/lower"
	"hauberk/mid"
	"hauberk/parse"
	"hauberk/sem"
	"hauberk/texts"
)

// someProgram is one at random, and its input; false, if it became too long or too deep.
func someProgram(t *testing.T, seed int) (api.Program, []byte, string, bool) {
	t.Helper()
	text, input := texts.Random(seed)
	if _, _, e := parse.Parse(text); e == api.ErrDeep || e == api.ErrFull {
		return api.Program{}, nil, "", false
	}
	return checked(t, text), input, text, true
}

// P11.1: random programs: their units are well formed, and do what they do; in all ways in which one may stop.
func TestRandom(t *testing.T) {
	const fuel = 3000
	tally := map[[2]int]int{}
	for seed := range 3000 {
		p, input, text, ok := someProgram(t, seed)
		if !ok {
			continue
		}
		u := lower.Unit(p)
		if !mid.Good(u) {
			t.Fatalf("P11.1: seed %d: %s: not well formed: %v", seed, text, u)
		}
		headed(t, p, u)
		want, got := sem.Run(p, input, fuel), mid.Run(u, input, 10*fuel)
		if want.State == api.Running {
			goesOn(t, text, p, u, input, want, got)
		} else if !same(got, want) {
			t.Fatalf("P11.1: seed %d: %s, with %q: %v, want %v", seed, text, input, got, want)
		}
		tally[[2]int{want.State, int(want.Why)}]++
	}
	for _, way := range [][2]int{{api.Running, 0}, {api.Exit, 0}, {api.NoRoom, 0}, {api.Stuck, int(api.ErrGone)}, {api.Stuck, int(api.ErrBounds)}, {api.Stuck, int(api.ErrNull)}, {api.Stuck, int(api.ErrFree)}} {
		if tally[way] < 10 {
			t.Errorf("only %d programs stop by %v", tally[way], way)
		}
	}
}

// goesOn asks of a program that took all of its fuel that its unit with more has put out the same first, and no more than the program does with more still.
func goesOn(t *testing.T, text string, p api.Program, u api.Unit, input []byte, less, got api.Result) {
	t.Helper()
	if !bytes.HasPrefix(got.Out, less.Out) {
		t.Fatalf("P11.1: %s, with %q: %v, want %v and more", text, input, got, less)
	}
	more := sem.Run(p, input, 2*got.Steps)
	if got.State == api.Running && !bytes.HasPrefix(more.Out, got.Out) || got.State != api.Running && !same(got, more) {
		t.Fatalf("P11.1: %s, with %q: %v, want %v, or less", text, input, got, more)
	}
}

// P11.1: what runs without an end does so.
func TestEndless(t *testing.T) {
	for _, text := range []string{
		"int main() { while (1) ; }", "int main() { while (1) continue; }", "int main() { return main(); }", "int f() { return g(); } int g() { return f(); } int main() { f(); }",
		"int n; int main() { while (1) { putchar('a' + n % 26); n = n + 1; } }", "int f(int n) { putchar('a' + n % 26); return f(n + 1); } int main() { f(0); }", "int main() { int *p = (int *) malloc(4); while (p) { putchar('x'); } }",
	} {
		p := checked(t, text)
		u := lower.Unit(p)
		for _, fuel := range []int{0, 1, 2, 10, 500, 5000} {
			want, got := sem.Run(p, nil, fuel), mid.Run(u, nil, 10*fuel)
			if got.State != api.Running || want.State != api.Running {
				t.Errorf("P11.1: %s: %v, want %v", text, got, want)
			}
			goesOn(t, text, p, u, nil, want, got)
		}
	}
}

// P11.2, P7 (R6, R8): of random programs what is handed in stays, and the answer is the same each time.
func TestStays(t *testing.T) {
	for seed := range 500 {
		p, _, text, ok := someProgram(t, seed)
		if !ok {
			continue
		}
		one, two := lower.Unit(p), lower.Unit(p)
		if !reflect.DeepEqual(one, two) {
			t.Fatalf("P7 (R8): %s: %v, then %v", text, one, two)
		}
		again, _, _ := parse.Parse(text)
		again, _, _ = check.Check(again)
		if !reflect.DeepEqual(p, again) {
			t.Fatalf("P11.2: %s: what was handed in is another", text)
		}
	}
}
