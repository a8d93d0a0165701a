package check_test

import (
	"reflect"
	"slices"
	"strconv"
	"strings"
	"testing"

	"hauberk/api"
	"hauberk/check"
	"hauberk/lay"
	"hauberk/lex"
	"hauberk/parse"
)

// same tells whether two values are the same; lists that are empty and that are nil are.
func same(a, b reflect.Value) bool {
	switch a.Kind() {
	case reflect.Slice:
		if a.Len() != b.Len() {
			return false
		}
		for i := range a.Len() {
			if !same(a.Index(i), b.Index(i)) {
				return false
			}
		}
		return true
	case reflect.Struct:
		for i := range a.NumField() {
			if !same(a.Field(i), b.Field(i)) {
				return false
			}
		}
		return true
	}
	return a.Equal(b)
}

func samePrograms(p, q api.Program) bool { return same(reflect.ValueOf(p), reflect.ValueOf(q)) }

// compare holds Check of a text against the model; false, if the text is no program.
func compare(t *testing.T, text string) (api.Errno, bool) {
	t.Helper()
	p, _, e := parse.Parse(text)
	if e != api.OK {
		return e, false
	}
	q, at, e := check.Check(p)
	want, wantAt, wantE := newModel().check(p)
	switch {
	case at != wantAt || e != wantE:
		t.Fatalf("P7.1: Check(%q): %s, want %s", text, wrong(at, e), wrong(wantAt, wantE))
	case !samePrograms(q, want):
		t.Fatalf("P7.1: Check(%q): %s, want %s", text, parse.Tree(q), parse.Tree(want))
	}
	return e, true
}

// P7.1: programs that were made to be right, against the model.
func TestRightPrograms(t *testing.T) {
	right := 0
	for seed := range int64(1500) {
		text := newMaker(seed, 0).program(5 + int(seed%30))
		e, ok := compare(t, text)
		if e != api.OK && e != api.ErrDeep && e != api.ErrFull {
			t.Fatalf("P7.1: seed %d: Check(%q): %d", seed, text, e)
		}
		if ok {
			right++
		}
	}
	if right < 1200 {
		t.Errorf("only %d programs were parsed", right)
	}
}

// P7.1: programs in which a few things are odd, against the model.
func TestOddPrograms(t *testing.T) {
	seen := map[api.Errno]int{}
	for seed := range int64(6000) {
		m := newMaker(seed, 10+int(seed%8)*15)
		e, _ := compare(t, m.program(3+m.Intn(25)))
		seen[e]++
	}
	if seen[api.OK] < 500 || seen[api.ErrName] < 500 || seen[api.ErrType] < 500 || seen[api.ErrMain] < 20 || seen[api.ErrSyntax] > 0 {
		t.Errorf("the samples are lopsided: %v", seen)
	}
}

// other is a token in another's place, of its kind.
func (m *maker) other(x api.Token) string {
	switch x.Kind {
	case api.TName:
		return pick(m, append(m.names, "a0", "b1", "p2", "s", "t", "c", "i", "l", "n", "putchar", "exit")...)
	case api.TNum:
		return pick(m, "0", "1", "2147483648")
	}
	for _, l := range [][]string{
		{"void", "char", "int", "long"}, {"break", "continue", "return"}, {"if", "while"}, {".", "->"}, {"*", "&", "-", "+"}, {"!", "~", "-", "*", "&"},
		{"==", "!=", "<", "<=", ">", ">=", "<<", ">>", "&&", "||", "|", "^", "/", "%", "+", "-", "="}, {"=", "=="},
	} {
		if slices.Contains(l, x.Text) && m.Intn(4) > 0 {
			return pick(m, l...)
		}
	}
	return x.Text
}

// P7.1: right programs in which a token or two are others, gone, or there twice, against the model.
func TestSpoilt(t *testing.T) {
	seen := map[api.Errno]int{}
	for seed := range int64(1500) {
		m := newMaker(seed, 0)
		tokens, _, _ := lex.Lex(m.program(m.Intn(20)))
		l := []string{}
		for _, x := range tokens {
			l = append(l, x.Text)
		}
		for range 6 {
			k := slices.Clone(l)
			for range 1 + m.Intn(4) {
				i := m.Intn(len(tokens))
				k[i] = m.other(tokens[i])
				switch m.Intn(60) {
				case 0:
					k[i] = ""
				case 1:
					k[i] += " " + k[i]
				}
			}
			e, _ := compare(t, strings.Join(k, " "))
			seen[e]++
		}
	}
	if seen[api.OK] < 500 || seen[api.ErrName] < 500 || seen[api.ErrType] < 500 || seen[api.ErrMain] < 10 {
		t.Errorf("the samples are lopsided: %v", seen)
	}
}

// strict tells of a program that was checked whether all Types in it are just those that are asked for, by nothing but the Kids' own.
type strict struct {
	p     api.Program
	types map[string]api.Var // the variables at the top, and the function's
	f     api.Func
	next  int
}

// strictRight is the first expression or statement that isn't as it must; nothing, if there is none.
func strictRight(p api.Program) string {
	for _, f := range p.Funcs {
		s := strict{p: p, types: map[string]api.Var{}, f: f}
		for _, v := range p.Vars {
			s.types[v.Name] = v
		}
		for _, v := range f.Params {
			if !s.local(v) {
				return "param " + v.Name
			}
		}
		if bad := s.stmts(f.Body.Kids); bad != "" {
			return f.Name + ": " + bad
		}
	}
	return ""
}

// local is that of the next number.
func (s *strict) local(v api.Var) bool {
	s.types[v.Name] = v
	s.next++
	return v.Name == "$"+strconv.Itoa(s.next-1)
}

func (s *strict) stmts(l []api.Stmt) string {
	for _, x := range l {
		for _, y := range x.Exprs {
			if bad := s.expr(y); bad != "" {
				return bad
			}
		}
		if !s.stmt(x) {
			return shownStmt(x)
		}
		if bad := s.stmts(x.Kids); bad != "" {
			return bad
		}
	}
	return ""
}

func (s *strict) stmt(x api.Stmt) bool {
	switch x.Kind {
	case api.SLocal:
		return s.local(x.Var) && (len(x.Exprs) == 0 || x.Exprs[0].Type == x.Var.Type && x.Var.Len == 0 && scalar(x.Var.Type))
	case api.SReturn:
		if s.f.Type == void {
			return len(x.Exprs) == 0
		}
		return x.Exprs[0].Type == s.f.Type
	case api.SIf, api.SWhile:
		return scalar(x.Exprs[0].Type)
	case api.SExpr:
		return len(x.Exprs) == 0 || scalar(x.Exprs[0].Type) || x.Exprs[0].Type == void
	}
	return true
}

func (s *strict) expr(x api.Expr) string {
	for _, k := range x.Kids {
		if bad := s.expr(k); bad != "" {
			return bad
		}
	}
	kids := []api.Type{}
	for _, k := range x.Kids {
		kids = append(kids, k.Type)
	}
	if !s.follows(x, kids) {
		return shownExpr(x)
	}
	return ""
}

func isNum(t api.Type) bool { return t.Stars == 0 && scalar(t) }

func (s *strict) size(t api.Type) bool {
	_, e := lay.Size(s.p.Structs, t)
	return e == api.OK
}

// pointee tells whether p points to t, and t has a size.
func (s *strict) pointee(p, t api.Type) bool { return p == to(t, 1) && s.size(t) }

func (s *strict) follows(x api.Expr, k []api.Type) bool {
	switch x.Kind {
	case api.ENum:
		small := x.Type == in && x.Num < 1<<31 || x.Type == long && x.Num >= 1<<31
		return small || x.Num == 0 && x.Type.Stars > 0
	case api.EName:
		v, ok := s.types[x.Name]
		if v.Len > 0 {
			return ok && x.Num == 1 && x.Type == to(v.Type, 1)
		}
		return ok && x.Num == 0 && x.Type == v.Type
	case api.EUnary:
		return s.unary(x, k[0])
	case api.EBinary:
		return s.binary(x, k[0], k[1])
	case api.EAssign:
		return scalar(x.Type) && x.Type == k[0] && x.Type == k[1]
	case api.EIndex:
		return s.pointee(k[0], x.Type) && k[1] == long
	case api.EField:
		t, _, e := lay.Field(s.p.Structs, k[0].Struct, x.Name)
		return e == api.OK && k[0].Base == api.Record && k[0].Stars == 0 && t == x.Type
	case api.ECast:
		return isNum(x.Type) && isNum(k[0])
	case api.ESize:
		return x.Type == long && x.Num > 0
	case api.EMalloc:
		return x.Type.Stars > 0 && s.size(to(x.Type, -1)) && k[0] == long
	}
	return x.Kind == api.ECall && s.call(x, k)
}

func (s *strict) unary(x api.Expr, k api.Type) bool {
	switch x.Op {
	case "!":
		return x.Type == in && scalar(k)
	case "*":
		return s.pointee(k, x.Type)
	case "&":
		return s.pointee(x.Type, k)
	}
	return x.Type == k && (k == in || k == long)
}

func (s *strict) binary(x api.Expr, a, b api.Type) bool {
	switch x.Op {
	case "<<", ">>":
		return x.Type == a && (a == in || a == long) && b == long
	case "<", "<=", ">", ">=":
		return x.Type == in && a == b && (a == in || a == long)
	case "==", "!=":
		nought := slices.ContainsFunc(x.Kids, func(k api.Expr) bool { return k.Kind == api.ENum && k.Num == 0 })
		return x.Type == in && a == b && (a == in || a == long || a.Stars > 0 && nought)
	case "&&", "||":
		return x.Type == in && scalar(a) && scalar(b)
	case "+", "-":
		if a.Stars > 0 {
			return x.Type == a && s.size(to(a, -1)) && b == long
		}
	}
	return x.Type == a && x.Type == b && (a == in || a == long)
}

func (s *strict) call(x api.Expr, k []api.Type) bool {
	switch x.Name {
	case "putchar", "exit":
		return x.Type == void && slices.Equal(k, []api.Type{in})
	case "getchar":
		return x.Type == in && len(k) == 0
	case "free":
		return x.Type == void && len(k) == 1 && k[0].Stars > 0 && k[0] != to(void, 1)
	}
	for _, f := range s.p.Funcs {
		if f.Name == x.Name {
			return x.Type == f.Type && slices.EqualFunc(k, f.Params, func(t api.Type, v api.Var) bool { return t == v.Type })
		}
	}
	return false
}

// P7.2: of programs that were checked each Type follows from the Kids', which are just what is asked for.
func TestTypesFollow(t *testing.T) {
	many := 0
	for seed := range int64(2000) {
		m := newMaker(seed, int(seed%2)*300)
		text := m.program(5 + m.Intn(40))
		q, _, e := check.Check(first(parse.Parse(text)))
		if e != api.OK {
			continue
		}
		many++
		if bad := strictRight(q); bad != "" {
			t.Fatalf("P7.2: Check(%q): %s", text, bad)
		}
	}
	if many < 1000 {
		t.Errorf("only %d programs were right", many)
	}
}

func first(p api.Program, _ int, _ api.Errno) api.Program { return p }

// undone is a program that was checked as it was ahead of that, by what it was: no cast that was put around, the old names, no Types.
type undone struct{ names map[string]string }

func (u undone) expr(now, was api.Expr) api.Expr {
	if now.Kind == api.ECast && (was.Kind != api.ECast || was.Type != now.Type) && now.At == was.At {
		now = now.Kids[0]
	}
	if len(now.Kids) == len(was.Kids) {
		now.Kids = slices.Clone(now.Kids)
		for i := range now.Kids {
			now.Kids[i] = u.expr(now.Kids[i], was.Kids[i])
		}
	}
	now.Type = was.Type
	if old, ok := u.names[now.Name]; ok && now.Kind == api.EName {
		now.Name = old
	}
	if now.Kind == api.EName || now.Kind == api.ESize {
		now.Num = was.Num
	}
	return now
}

func (u undone) stmts(now, was []api.Stmt) []api.Stmt {
	now = slices.Clone(now)
	for i := range min(len(now), len(was)) {
		now[i].Exprs = slices.Clone(now[i].Exprs)
		for k := range min(len(now[i].Exprs), len(was[i].Exprs)) {
			now[i].Exprs[k] = u.expr(now[i].Exprs[k], was[i].Exprs[k])
		}
		if now[i].Kind == api.SLocal {
			u.names[now[i].Var.Name] = was[i].Var.Name
			now[i].Var.Name = was[i].Var.Name
		}
		now[i].Kids = u.stmts(now[i].Kids, was[i].Kids)
	}
	return now
}

// P7.1: all else of a program that was checked is as it was.
func TestAllElseIsAsItWas(t *testing.T) {
	for seed := range int64(800) {
		m := newMaker(seed, 0)
		p := first(parse.Parse(m.program(5 + m.Intn(30))))
		q, _, e := check.Check(p)
		if e != api.OK {
			continue
		}
		for i := range q.Funcs {
			f, was := &q.Funcs[i], p.Funcs[i]
			u := undone{map[string]string{}}
			for k := range f.Params {
				u.names[f.Params[k].Name] = was.Params[k].Name
				f.Params[k].Name = was.Params[k].Name
			}
			f.Body = u.stmts([]api.Stmt{f.Body}, []api.Stmt{was.Body})[0]
		}
		if !samePrograms(p, q) {
			t.Fatalf("P7.1: seed %d: %s, and then %s", seed, parse.Tree(p), parse.Tree(q))
		}
	}
}

// each goes through all lists of a value, also those in the spare room of others.
func each(v reflect.Value, see func(reflect.Value)) {
	switch v.Kind() {
	case reflect.Slice:
		see(v)
		for i := range v.Cap() {
			each(v.Slice(0, v.Cap()).Index(i), see)
		}
	case reflect.Struct:
		for i := range v.NumField() {
			each(v.Field(i), see)
		}
	}
}

// roomy gives all lists of a program spare room, with something in it.
func roomy(v reflect.Value) {
	switch v.Kind() {
	case reflect.Slice:
		for i := range v.Len() {
			roomy(v.Index(i))
		}
		wide := reflect.MakeSlice(v.Type(), v.Len()+2, v.Len()+2)
		reflect.Copy(wide, v)
		for i := v.Len(); i < wide.Len(); i++ {
			f := wide.Index(i)
			f.FieldByName("At").SetInt(77)
		}
		v.Set(wide.Slice(0, v.Len()))
	case reflect.Struct:
		for i := range v.NumField() {
			roomy(v.Field(i))
		}
	}
}

// whole is all of a value, spare room too.
func whole(v reflect.Value) any {
	switch v.Kind() {
	case reflect.Slice:
		l := []any{v.Len()}
		for i := range v.Cap() {
			l = append(l, whole(v.Slice(0, v.Cap()).Index(i)))
		}
		return l
	case reflect.Struct:
		l := []any{}
		for i := range v.NumField() {
			l = append(l, whole(v.Field(i)))
		}
		return l
	}
	return v.Interface()
}

// samples are programs, right ones and wrong ones, whose lists all have spare room.
func samples(many int64, see func(seed int64, p api.Program)) {
	for seed := range many {
		m := newMaker(seed, int(seed%3)*30)
		p, _, e := parse.Parse(m.program(3 + m.Intn(25)))
		if e == api.OK {
			roomy(reflect.ValueOf(&p).Elem())
			see(seed, p)
		}
	}
}

// P7.3 (R6): programs that were handed in stay as they were, spare room included.
func TestHandedInStays(t *testing.T) {
	samples(400, func(seed int64, p api.Program) {
		was := whole(reflect.ValueOf(p))
		q, at, e := check.Check(p)
		if !reflect.DeepEqual(whole(reflect.ValueOf(p)), was) {
			t.Fatalf("P7.3: seed %d: the program has changed", seed)
		}
		again, atAgain, eAgain := check.Check(p)
		if !samePrograms(q, again) || at != atAgain || e != eAgain {
			t.Fatalf("P7 (R8): seed %d: %s, and then %s", seed, wrong(at, e), wrong(atAgain, eAgain))
		}
	})
}

// piece is the memory of a list, its spare room too.
type piece struct{ from, end uintptr }

func pieces(p *api.Program) []piece {
	var l []piece
	each(reflect.ValueOf(p).Elem(), func(v reflect.Value) {
		if v.Cap() > 0 {
			l = append(l, piece{v.Pointer(), v.Pointer() + uintptr(v.Cap())*v.Type().Elem().Size()})
		}
	})
	return l
}

// P7.3 (R6): answers are new memory: no list of them shares any with another, with what was handed in, or with another answer.
func TestAnswersAreNew(t *testing.T) {
	many := 0
	samples(400, func(seed int64, p api.Program) {
		q, _, e := check.Check(p)
		r, _, _ := check.Check(p)
		if e == api.OK {
			many++
		}
		l := slices.Concat(pieces(&p), pieces(&q), pieces(&r))
		slices.SortFunc(l, func(a, b piece) int { return int(a.from) - int(b.from) })
		for i := 1; i < len(l); i++ {
			if l[i].from < l[i-1].end {
				t.Fatalf("P7.3: seed %d: two lists share memory", seed)
			}
		}
	})
	if many < 100 {
		t.Errorf("only %d programs were right", many)
	}
}

// P7 (R8): an answer doesn't hang on what was asked ahead of it; new names aren't pieces of what was handed in.
func TestAsksAgain(t *testing.T) {
	ask := func(seed int64) []any {
		m := newMaker(seed, 60)
		q, at, e := check.Check(first(parse.Parse(m.program(20))))
		return []any{q, at, e}
	}
	l := [][]any{}
	for seed := range int64(200) {
		l = append(l, ask(seed))
	}
	for seed := int64(199); seed >= 0; seed-- {
		if again := ask(seed); !reflect.DeepEqual(again, l[seed]) {
			t.Fatalf("P7: R8: seed %d: %v, and then %v", seed, l[seed], again)
		}
	}
}

// P6: trees that no text has, which nothing is promised of, don't make Check panic.
func TestNonePanics(t *testing.T) {
	for seed := range int64(3000) {
		m := newMaker(seed, 0)
		p := first(parse.Parse(m.program(m.Intn(12))))
		spoil := func(v reflect.Value) {
			if v.Len() == 0 || m.Intn(12) > 0 {
				return
			}
			k := v.Index(m.Intn(v.Len()))
			switch m.Intn(4) {
			case 0:
				v.Set(v.Slice(0, v.Len()-1))
			case 1:
				v.Set(reflect.Append(v, k))
			case 2:
				k.SetZero()
			case 3:
				if f := k.FieldByName("Kind"); f.IsValid() {
					f.SetInt(int64(m.Intn(16) - 2))
				}
			}
		}
		each(reflect.ValueOf(&p).Elem(), spoil)
		check.Check(p)
	}
	check.Check(api.Program{Funcs: make([]api.Func, 3), Vars: make([]api.Var, 3), Structs: make([]api.Struct, 3)})
	bare := []api.Stmt{{Kind: api.SIf}, {Kind: api.SWhile}, {Kind: api.SReturn}, {Kind: api.SLocal}, {Kind: api.SExpr, Exprs: []api.Expr{{Kind: api.EUnary}}}}
	check.Check(api.Program{Funcs: []api.Func{{Name: "main", Type: in, Body: api.Stmt{Kind: 99, Kids: bare}}}})
}
