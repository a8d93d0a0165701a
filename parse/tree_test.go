package parse_test

import (
	"reflect"
	"runtime/debug"
	"slices"
	"strconv"
	"strings"
	"testing"
	"unsafe"

	"hauberk/api"
	"hauberk/parse"
)

// each gives all parts of a value that can be set, with their fields' names, lists and what is in them too.
func each(v reflect.Value, name string, give func(v reflect.Value, name string)) {
	switch v.Kind() {
	case reflect.Slice:
		give(v, name)
		for i := range v.Len() {
			each(v.Index(i), name, give)
		}
	case reflect.Struct:
		for i := range v.NumField() {
			each(v.Field(i), v.Type().Field(i).Name, give)
		}
	default:
		give(v, name)
	}
}

// others are some values that differ from one, and from each other.
func others(v reflect.Value) []reflect.Value {
	l := []reflect.Value{}
	add := func(x any) {
		if y := reflect.ValueOf(x).Convert(v.Type()); !y.Equal(v) {
			l = append(l, y)
		}
	}
	switch v.Kind() {
	case reflect.Int:
		add(-1)
		add(v.Int() + 1)
		add(v.Int() * 10)
		add(-1 << 63)
	case reflect.Uint64:
		add(v.Uint() + 1)
		add(uint64(1<<64 - 1))
		add(v.Uint() + 1<<63)
	case reflect.String:
		for _, s := range []string{"", "q", "\"", v.String() + " ", " " + v.String(), v.String() + "\n", "\xff", "\ufffd"} {
			add(s)
		}
	case reflect.Slice:
		zero := reflect.Zero(v.Type().Elem())
		l = append(l, reflect.Append(v.Slice3(0, v.Len(), v.Len()), zero))
		if v.Len() > 0 {
			l = append(l, v.Slice(1, v.Len()), v.Slice(0, v.Len()-1), reflect.Append(v.Slice3(0, v.Len(), v.Len()), v.Index(0)))
		}
		return slices.DeleteFunc(l, func(w reflect.Value) bool { return same(v, w) })
	}
	return l
}

// P6.1: a Tree is another as soon as anything in the tree is, but a place; and only then.
func TestTreeTellsAll(t *testing.T) {
	for seed := range int64(60) {
		m := newMaker(seed)
		p := m.makeProgram(12)
		p.Structs = append(p.Structs, api.Struct{Fields: []api.Field{{}}})
		p.Funcs = append(p.Funcs, api.Func{Params: []api.Var{{}}, Body: api.Stmt{Exprs: []api.Expr{{}}}})
		was := parse.Tree(p)
		each(reflect.ValueOf(&p).Elem(), "", func(v reflect.Value, name string) {
			keep := reflect.New(v.Type()).Elem()
			keep.Set(v)
			for _, o := range others(keep) {
				v.Set(o)
				if got := parse.Tree(p); (got == was) != (name == "At") {
					t.Fatalf("P6.1: seed %d: %s was %v, is %v: Tree %s, was %s", seed, name, keep, o, got, was)
				}
			}
			v.Set(keep)
			if v.Kind() == reflect.Slice && v.Len() == 0 {
				v.Set(reflect.MakeSlice(v.Type(), 0, 3))
			}
		})
		if parse.Tree(p) != was {
			t.Fatalf("P7: R5: seed %d: Tree of lists that are empty, not nil", seed)
		}
	}
}

// shapes are all trees of expressions of n parts, without what is in them but a name.
func shapes(n int) []api.Expr {
	l := []api.Expr{}
	for _, kids := range forests(n - 1) {
		l = append(l, api.Expr{Kids: kids}, api.Expr{Name: "0", Kids: kids})
	}
	return l
}

func forests(n int) [][]api.Expr {
	if n == 0 {
		return [][]api.Expr{nil}
	}
	l := [][]api.Expr{}
	for i := 1; i <= n; i++ {
		for _, x := range shapes(i) {
			for _, rest := range forests(n - i) {
				l = append(l, append([]api.Expr{x}, rest...))
			}
		}
	}
	return l
}

// P6.1: all small trees are told differently, wherever in a program their parts stand.
func TestTreesDiffer(t *testing.T) {
	seen := map[string]int{}
	tell := func(p api.Program) { seen[parse.Tree(p)]++ }
	body := func(s api.Stmt) { tell(api.Program{Funcs: []api.Func{{Body: s}}}) }
	for i := 1; i <= 6; i++ {
		for _, x := range shapes(i) {
			body(api.Stmt{Exprs: []api.Expr{x}})
		}
	}
	for i := 2; i <= 4; i++ {
		for _, l := range forests(i) {
			if len(l) > 1 {
				body(api.Stmt{Exprs: l})
				body(api.Stmt{Kids: []api.Stmt{{Exprs: l[:1]}, {Exprs: l[1:]}}})
				body(api.Stmt{Exprs: l[:1], Kids: []api.Stmt{{Exprs: l[1:]}}})
				body(api.Stmt{Kids: []api.Stmt{{Exprs: l[:1], Kids: []api.Stmt{{Exprs: l[1:]}}}}})
				tell(api.Program{Funcs: []api.Func{{Body: api.Stmt{Exprs: l[:1]}}, {Body: api.Stmt{Exprs: l[1:]}}}})
			}
		}
	}
	for i := range 4 {
		for k := range 4 {
			structs := []api.Struct{{Fields: make([]api.Field, i)}, {Fields: make([]api.Field, k)}}
			funcs := []api.Func{{Params: make([]api.Var, i)}, {Params: make([]api.Var, k)}}
			tell(api.Program{Structs: structs})
			tell(api.Program{Funcs: funcs})
			tell(api.Program{Structs: structs, Funcs: funcs})
			tell(api.Program{Structs: make([]api.Struct, i), Vars: make([]api.Var, k+1)})
		}
	}
	odd := []string{"", " ", "\"", "\\", "\\\"", "\" \"", "\"\n", "a", "\xff", "\ufffd", "\\xff", "\x00", "é", "1", "0 0", "(", ")"}
	for _, a := range odd {
		for _, b := range odd {
			tell(api.Program{Vars: []api.Var{{Name: a, Type: api.Type{Struct: b}}}, Funcs: []api.Func{{}}})
			body(api.Stmt{Exprs: []api.Expr{{Op: a, Name: b, Num: 7}}})
		}
	}
	for a := range 30 {
		for b := range 30 {
			tell(api.Program{Vars: []api.Var{{Type: api.Type{Base: a, Stars: b}}}, Structs: make([]api.Struct, 3), Funcs: []api.Func{{}}})
		}
	}
	for text, many := range seen {
		if many > 1 {
			t.Errorf("P6.1: %d trees are told as %q", many, text)
		}
	}
}

// P6: trees that are as deep as they like, and kinds that there aren't.
func TestDeepTrees(t *testing.T) {
	defer debug.SetMaxStack(debug.SetMaxStack(1 << 20))
	x, s := api.Expr{Kind: -7, Num: 1<<64 - 1}, api.Stmt{Kind: 1 << 40}
	for range 100000 {
		x = api.Expr{Kind: api.EUnary, Op: "-", Kids: []api.Expr{x}}
		s = api.Stmt{Kind: api.SBlock, Kids: []api.Stmt{s}}
	}
	a := parse.Tree(api.Program{Funcs: []api.Func{{Body: api.Stmt{Exprs: []api.Expr{x, x}}}, {Body: s}}})
	x = api.Expr{Kind: api.EUnary, Op: "-", Kids: []api.Expr{x}}
	b := parse.Tree(api.Program{Funcs: []api.Func{{Body: api.Stmt{Exprs: []api.Expr{x, x}}}, {Body: s}}})
	if a == b || len(b) < len(a) {
		t.Error("P6.1: Tree of deep trees: the same")
	}
}

// whole is all of a value, spare room of lists too.
func whole(v reflect.Value) string {
	b := strings.Builder{}
	var tell func(v reflect.Value)
	tell = func(v reflect.Value) {
		switch v.Kind() {
		case reflect.Slice:
			b.WriteString("[" + strconv.Itoa(v.Len()) + " of " + strconv.Itoa(v.Cap()) + ":")
			for i := range v.Cap() {
				tell(v.Slice(0, v.Cap()).Index(i))
			}
			b.WriteString("]")
		case reflect.Struct:
			for i := range v.NumField() {
				tell(v.Field(i))
			}
		case reflect.String:
			b.WriteString(strconv.Quote(v.String()))
		case reflect.Uint64:
			b.WriteString(strconv.FormatUint(v.Uint(), 10) + " ")
		default:
			b.WriteString(strconv.FormatInt(v.Int(), 10) + " ")
		}
	}
	tell(v)
	return b.String()
}

// P6.2 (R6): what Tree is handed stays, its lists' spare room too.
func TestHandedInStays(t *testing.T) {
	for seed := range int64(100) {
		m := newMaker(seed)
		p := m.makeProgram(30)
		was := whole(reflect.ValueOf(p))
		a := parse.Tree(p)
		if whole(reflect.ValueOf(p)) != was || parse.Tree(p) != a {
			t.Fatalf("P6.2: seed %d: Tree of %s", seed, was)
		}
	}
}

// piece is the memory of a list, its spare room too, or of a text.
type piece struct{ from, end uintptr }

// pieces are the memory of all lists, and of all texts, that there is.
func pieces(v reflect.Value) (lists, texts []piece) {
	each(v, "", func(v reflect.Value, _ string) {
		switch {
		case v.Kind() == reflect.Slice && v.Cap() > 0:
			from := v.Pointer()
			lists = append(lists, piece{from, from + uintptr(v.Cap())*v.Type().Elem().Size()})
		case v.Kind() == reflect.String && v.Len() > 0:
			texts = append(texts, pieceOf(v.String()))
		}
	})
	return lists, texts
}

func pieceOf(s string) piece {
	from := uintptr(unsafe.Pointer(unsafe.StringData(s)))
	return piece{from, from + uintptr(len(s))}
}

// P6.2 (R6): answers are new memory: no list of them shares any with another, nor a text with what was handed in.
func TestAnswersAreNew(t *testing.T) {
	for seed := range int64(300) {
		m := newMaker(seed)
		m.makeProgram(60)
		text := m.String()
		p, _, _ := parse.Parse(text)
		q, _, _ := parse.Parse(text)
		lists, texts := pieces(reflect.ValueOf(&p).Elem())
		more, _ := pieces(reflect.ValueOf(&q).Elem())
		lists = append(lists, more...)
		slices.SortFunc(lists, func(a, b piece) int { return int(a.from) - int(b.from) })
		for i := 1; i < len(lists); i++ {
			if lists[i].from < lists[i-1].end {
				t.Fatalf("P6.2: seed %d: two lists of the program of %q share memory", seed, text)
			}
		}
		in := pieceOf(text)
		for _, x := range texts {
			if x.from < in.end && in.from < x.end {
				t.Fatalf("P6.2: seed %d: a text of the program shares that of %q", seed, text)
			}
		}
	}
}
