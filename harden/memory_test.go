package harden_test

import (
	"reflect"
	"testing"

	"hauberk/api"
	"hauberk/harden"
	"hauberk/samples"
)

// rich is a program that has one of nearly all.
const rich = "struct s { char c; long l; struct s *n; }; struct s v; struct s w[3]; char c; int i; long a[5]; int *p; " +
	"long *f(int x, char *p, struct s *q, long l) { if (x && p || !q) return &q->l; else { while (x > 0) { x = x - 1; if (x == 3) continue; if (x != 2) break; } } char b[3]; struct s u; int y = b[x] + sizeof(int); u.c = y << 2; free(q); return a + l; } " +
	"void g() { putchar(getchar() + -1 & ~2 | (char) c * 3); return; } char h() { } " +
	"int main() { g(); p = (int *) malloc(i * 4 + 8); *p = *f(0, &c, 0, 2) % 5 - h(); v.n = &w[1]; { w[2] .l = v.n->l / 2 ^ 1 >> i; } if (p != 0) exit(p[1] <= 3); return (0 == p) + (c < 1) + (c >= 1); }"

// junk writes over all of a list, its spare room too.
func junk[T any](l []T, with T) {
	l = l[:cap(l)]
	for k := range l {
		l[k] = with
	}
}

// behind are all lists of a unit, as functions that write over what is behind their ends.
func behind(u api.Unit) []func() {
	l := []func(){func() { junk(u.Tops[len(u.Tops):], api.Top{Name: "junk"}) }, func() { junk(u.Fns[len(u.Fns):], api.Fn{Name: "junk"}) }}
	numbers := func(lists ...[]int) {
		for _, list := range lists {
			l = append(l, func() { junk(list[len(list):], -77) })
		}
	}
	for _, f := range u.Fns {
		numbers(f.Params, f.Kinds, f.Slots)
		l = append(l, func() { junk(f.Code[len(f.Code):], api.Ins{Op: -77}) })
		for _, i := range f.Code {
			numbers(i.Args, i.Outs)
		}
	}
	return l
}

// within are all lists of numbers of a unit that aren't empty.
func within(u api.Unit) [][]int {
	var l [][]int
	add := func(lists ...[]int) {
		for _, list := range lists {
			if len(list) > 0 {
				l = append(l, list)
			}
		}
	}
	for _, f := range u.Fns {
		add(f.Params, f.Kinds, f.Slots)
		for _, i := range f.Code {
			add(i.Args, i.Outs)
		}
	}
	return l
}

// apart asks that no two lists of a unit share memory, neither what they have nor their spare room.
func apart(t *testing.T, u, same api.Unit) {
	t.Helper()
	for _, spoil := range behind(u) {
		spoil()
		if !reflect.DeepEqual(u, same) {
			t.Fatalf("P13.3: two lists share spare room: %v", same.Fns)
		}
	}
	for _, l := range within(u) {
		l[0]++
	}
	for k, l := range within(same) {
		l[0]++
		if l[0] != within(u)[k][0] {
			t.Fatalf("P13.3: two lists share memory: %v", same.Fns)
		}
	}
}

// P13.3, P7 (R5, R6, R8): what is handed in stays, spare room too; answers are new memory, each list of them apart from all others; each is the same.
func TestMemory(t *testing.T) {
	stays(t, lowered(t, rich))
	for seed := range 60 {
		u, _ := samples.Blocks(seed, 8)
		stays(t, u)
	}
}

func stays(t *testing.T, made api.Unit) {
	t.Helper()
	u, again := samples.Roomy(made), samples.Roomy(made)
	one, two := harden.Unit(u), harden.Unit(u)
	if !reflect.DeepEqual(samples.Bare(u), samples.Bare(again)) {
		t.Fatalf("P13.3: what was handed in is another: %v", made.Fns)
	}
	if !reflect.DeepEqual(one, two) {
		t.Fatalf("P7 (R8): not the same each time: %v", made.Fns)
	}
	apart(t, one, two)
	ruin(one)
	if !reflect.DeepEqual(samples.Bare(u), samples.Bare(again)) {
		t.Fatalf("P13.3: an answer shares memory with what was handed in: %v", made.Fns)
	}
	two = harden.Unit(u)
	ruin(u)
	if !reflect.DeepEqual(two, harden.Unit(again)) {
		t.Fatalf("P13.3: an answer has changed with what was handed in: %v", made.Fns)
	}
}

// ruin writes over all of a unit.
func ruin(u api.Unit) {
	for _, f := range u.Fns {
		for _, i := range f.Code {
			junk(i.Args, -77)
			junk(i.Outs, -77)
		}
		junk(f.Params, -77)
		junk(f.Kinds, -77)
		junk(f.Slots, -77)
		junk(f.Code, api.Ins{Op: -77})
	}
	junk(u.Tops, api.Top{Name: "junk"})
	junk(u.Fns, api.Fn{Name: "junk"})
}
