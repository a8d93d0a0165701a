package check_test

import (
	"slices"
	"strconv"
	"strings"

	"hauberk/api"
	"hauberk/lay"
)

// rows are the chapter's words of operators as a table: which they are (with the number of their kids), of what (a letter a kid), what comes of it, and what each kid is asked to be.
//
// Of what: n a number, p a pointer to what has a size, P a pointer, 0 a nought, r a lvalue that is a number or a pointer, R any lvalue.
//
// What comes of it, and what is asked for: i an int, l a long, w a long if one is and else an int, W that of the first kid alone, a, b the first kid's type and the second's, e what the first kid points to, & a pointer to the first kid's; a dot: as it is.
const rows = `
1 - ~ : n : W W
1 ! : n P : i .
1 * : p : e .
1 & : R : & .
2 * / % & ^ | : nn : w ww
2 + - : nn : w ww
2 + - : pn : a .l
2 << >> : nn : W Wl
2 < <= > >= : nn : i ww
2 == != : nn : i ww
2 == != : P0 : i aa
2 == != : 0P : i bb
2 && || : nn nP Pn PP : i ..
2 = : rn : a aa
2 = : r0 : a aa
2 [] : pn : e .l
`

// row is one of them.
type row struct{ ops, of, comes, asked string }

func readRows() []row {
	var l []row
	for _, s := range strings.Split(strings.TrimSpace(rows), "\n") {
		f := strings.Split(s, " : ")
		comes, asked, _ := strings.Cut(f[2], " ")
		for _, of := range strings.Fields(f[1]) {
			l = append(l, row{f[0] + " ", of, comes, asked})
		}
	}
	return l
}

// scope is the innermost name, and all others that are known behind it.
type scope struct {
	name   string
	depth  int
	kind   rune // v a variable, f a function
	typ    api.Type
	length int
	to     string
	params []api.Type
	up     *scope
}

func (s *scope) find(name string) *scope {
	for s != nil && s.name != name {
		s = s.up
	}
	return s
}

// fault is thrown at the first thing that is wrong.
type fault struct {
	at int
	e  api.Errno
}

func need(ok bool, at int, e api.Errno) {
	if !ok {
		panic(fault{at, e})
	}
}

// model is another checker, by the table, and by lists of names.
type model struct {
	rows    []row
	structs []api.Struct
	count   int
	answer  api.Type
}

var (
	void = api.Type{Base: api.Void}
	char = api.Type{Base: api.Char}
	in   = api.Type{Base: api.Int}
	long = api.Type{Base: api.Long}
)

func to(t api.Type, stars int) api.Type {
	t.Stars += stars
	return t
}

// sized tells whether something may be of a type: all but void alone, and structs that aren't there.
func (m *model) sized(t api.Type) bool {
	there := t.Base != api.Record
	for _, s := range m.structs {
		there = there || s.Name == t.Struct
	}
	return there && t.Stars <= 4 && t != void
}

func scalar(t api.Type) bool { return t.Stars > 0 || t.Base >= api.Char && t.Base <= api.Long }

// letters are all that an expression is, of the table's.
func (m *model) letters(x api.Expr) string {
	s := ""
	switch {
	case x.Type.Stars > 0 && m.sized(to(x.Type, -1)):
		s = "pP"
	case x.Type.Stars > 0:
		s = "P"
	case x.Type.Base == api.Record:
		s = "s"
	case x.Type.Base != api.Void:
		s = "n"
	}
	if x.Kind == api.ENum && x.Num == 0 {
		s += "0"
	}
	place := x.Kind == api.EName && x.Num == 0 || x.Kind == api.EUnary && x.Op == "*" || x.Kind == api.EIndex || x.Kind == api.EField
	if place {
		s += "R"
	}
	if place && scalar(x.Type) {
		s += "r"
		if x.Type.Stars > 0 {
			s += "t" // a pointer that may be assigned to
		}
	}
	return s
}

// meant is the type that a letter of the table means.
func meant(letter byte, kids []api.Expr) api.Type {
	first, last := kids[0].Type, kids[len(kids)-1].Type
	switch letter {
	case 'i':
		return in
	case 'l':
		return long
	case 'a':
		return first
	case 'b':
		return last
	case 'e':
		return to(first, -1)
	case '&':
		return to(first, 1)
	case 'W':
		last = first
	}
	if first == long || last == long {
		return long
	}
	return in
}

// turned is a kid as what is asked for.
func turned(x api.Expr, t api.Type) api.Expr {
	if x.Type == t {
		return x
	}
	if t.Stars > 0 {
		x.Type = t
		return x
	}
	return api.Expr{Kind: api.ECast, Type: t, Kids: []api.Expr{x}, At: x.At}
}

// fits is what a table's row tells of where something is given: an assignment, an argument, a return, a local.
func (m *model) fits(x api.Expr, t api.Type) bool {
	if t.Stars > 0 {
		return x.Type == t || strings.Contains(m.letters(x), "0")
	}
	return strings.Contains(m.letters(x), "n") && scalar(t)
}

// operate looks an operator up.
func (m *model) operate(x api.Expr, op string) api.Expr {
	op = " " + op + " "
	for _, r := range m.rows {
		right := strings.Contains(r.ops, op) && r.ops[0] == '0'+byte(len(x.Kids)) && len(r.of) == len(x.Kids)
		for i := 0; right && i < len(x.Kids); i++ {
			right = strings.Contains(m.letters(x.Kids[i]), r.of[i:i+1])
		}
		if !right || op == " = " && !m.fits(x.Kids[1], x.Kids[0].Type) {
			continue
		}
		x.Type = meant(r.comes[0], x.Kids)
		made := slices.Clone(x.Kids)
		for i, k := range x.Kids {
			if r.asked[i] != '.' {
				made[i] = turned(k, meant(r.asked[i], x.Kids))
			}
		}
		x.Kids = made
		return x
	}
	// An assignment of a pointer to a pointer has no row: both must be of one type.
	if op == " = " && strings.Contains(m.letters(x.Kids[0]), "t") && x.Kids[0].Type == x.Kids[1].Type {
		x.Type = x.Kids[0].Type
		return x
	}
	panic(fault{x.At, api.ErrType})
}

func (m *model) expr(s *scope, x api.Expr) api.Expr {
	kids := x.Kids
	x.Kids = nil
	for _, k := range kids {
		x.Kids = append(x.Kids, m.expr(s, k))
	}
	x = m.one(s, x)
	need(x.Type == void || m.sized(x.Type), x.At, api.ErrType)
	return x
}

func (m *model) one(s *scope, x api.Expr) api.Expr {
	switch x.Kind {
	case api.ENum:
		x.Type = in
		if x.Num > 1<<31-1 {
			x.Type = long
		}
	case api.EName:
		v := s.find(x.Name)
		need(v != nil && v.kind == 'v', x.At, api.ErrName)
		x.Name, x.Type = v.to, v.typ
		if v.length > 0 {
			x.Type, x.Num = to(v.typ, 1), 1
		}
	case api.EUnary, api.EBinary:
		return m.operate(x, x.Op)
	case api.EAssign:
		return m.operate(x, "=")
	case api.EIndex:
		return m.operate(x, "[]")
	case api.EField:
		k := x.Kids[0].Type
		need(k.Base == api.Record && k.Stars == 0, x.At, api.ErrType)
		t, _, e := lay.Field(m.structs, k.Struct, x.Name)
		need(e == api.OK, x.At, api.ErrName)
		x.Type = t
	case api.ECast:
		need(x.Type.Stars == 0 && scalar(x.Type) && strings.HasPrefix(m.letters(x.Kids[0]), "n"), x.At, api.ErrType)
	case api.ESize:
		need(m.sized(x.Type), x.At, api.ErrType)
		n, _ := lay.Size(m.structs, x.Type)
		x.Num, x.Type = uint64(n), long
	case api.EMalloc:
		need(x.Type.Stars > 0 && m.sized(to(x.Type, -1)) && m.fits(x.Kids[0], long), x.At, api.ErrType)
		x.Kids[0] = turned(x.Kids[0], long)
	case api.ECall:
		return m.call(s, x)
	}
	return x
}

func (m *model) call(s *scope, x api.Expr) api.Expr {
	f := s.find(x.Name)
	need(f != nil && f.kind == 'f', x.At, api.ErrName)
	params := f.params
	if f.name == "free" {
		need(len(x.Kids) == 1 && strings.Contains(m.letters(x.Kids[0]), "p"), x.At, api.ErrType)
		params = []api.Type{x.Kids[0].Type}
	}
	need(len(params) == len(x.Kids), x.At, api.ErrType)
	for i, t := range params {
		need(m.fits(x.Kids[i], t), x.At, api.ErrType)
		x.Kids[i] = turned(x.Kids[i], t)
	}
	x.Type = f.typ
	return x
}

// stmts are those of a block that is so deep, behind the names of s; inside tells whether a loop is around them.
func (m *model) stmts(s *scope, depth int, inside bool, l []api.Stmt) []api.Stmt {
	var made []api.Stmt
	for _, x := range l {
		var y api.Stmt
		y, s = m.stmt(s, depth, inside, x)
		made = append(made, y)
	}
	return made
}

// stmt is a statement, and the names that are known behind it.
func (m *model) stmt(s *scope, depth int, inside bool, x api.Stmt) (api.Stmt, *scope) {
	if x.Kind == api.SLocal {
		ahead := s.find(x.Var.Name)
		need(ahead == nil || ahead.depth != depth, x.At, api.ErrName)
	}
	exprs, kids := x.Exprs, x.Kids
	x.Exprs, x.Kids = nil, nil
	for _, y := range exprs {
		x.Exprs = append(x.Exprs, m.expr(s, y))
	}
	switch x.Kind {
	case api.SBlock:
		x.Kids = m.stmts(s, depth+1, inside, kids)
	case api.SIf, api.SWhile:
		for _, k := range kids {
			x.Kids = append(x.Kids, m.stmts(s, depth+1, inside || x.Kind == api.SWhile, []api.Stmt{k})...)
		}
		need(scalar(x.Exprs[0].Type), x.Exprs[0].At, api.ErrType)
	case api.SBreak, api.SContinue:
		need(inside, x.At, api.ErrType)
	case api.SExpr:
		need(len(x.Exprs) == 0 || x.Exprs[0].Type == void || scalar(x.Exprs[0].Type), x.At, api.ErrType)
	case api.SReturn:
		need((len(x.Exprs) == 0) == (m.answer == void), x.At, api.ErrType)
		m.give(&x, m.answer)
	case api.SLocal:
		v := x.Var
		need(m.sized(v.Type), x.At, api.ErrType)
		need(len(x.Exprs) == 0 || v.Len == 0, x.At, api.ErrType)
		m.give(&x, v.Type)
		x.Var, s = m.local(s, depth, v)
	}
	return x, s
}

// give is of what a statement has, if it has it, as a type.
func (m *model) give(x *api.Stmt, t api.Type) {
	for i := range x.Exprs {
		need(m.fits(x.Exprs[i], t), x.At, api.ErrType)
		x.Exprs[i] = turned(x.Exprs[i], t)
	}
}

func (m *model) local(s *scope, depth int, v api.Var) (api.Var, *scope) {
	s = &scope{name: v.Name, depth: depth, kind: 'v', typ: v.Type, length: v.Len, to: "$" + strconv.Itoa(m.count), up: s}
	m.count++
	v.Name = s.to
	return v, s
}

// top is what all know.
func (m *model) top(p api.Program) *scope {
	var s *scope
	know := func(at int, n scope) {
		need(s.find(n.name) == nil, at, api.ErrName)
		n.up = s
		s = &n
	}
	know(0, scope{name: "putchar", kind: 'f', typ: void, params: []api.Type{in}})
	know(0, scope{name: "getchar", kind: 'f', typ: in})
	know(0, scope{name: "exit", kind: 'f', typ: void, params: []api.Type{in}})
	know(0, scope{name: "free", kind: 'f', typ: void})
	for _, v := range p.Vars {
		know(v.At, scope{name: v.Name, kind: 'v', typ: v.Type, length: v.Len, to: v.Name})
		need(m.sized(v.Type), v.At, api.ErrType)
	}
	for _, f := range p.Funcs {
		n := scope{name: f.Name, kind: 'f', typ: f.Type}
		for _, v := range f.Params {
			n.params = append(n.params, v.Type)
		}
		know(f.At, n)
		need(f.Type == void || m.sized(f.Type) && scalar(f.Type), f.At, api.ErrType)
		names := map[string]int{}
		for _, v := range f.Params {
			need(m.sized(v.Type) && scalar(v.Type), v.At, api.ErrType)
			need(names[v.Name] == 0, v.At, api.ErrName)
			names[v.Name]++
		}
		need(f.Name != "main" || f.Type == in && len(f.Params) == 0, f.At, api.ErrMain)
	}
	return s
}

// check is Check.
func (m *model) check(p api.Program) (q api.Program, at int, e api.Errno) {
	defer func() {
		if r := recover(); r != nil {
			f := r.(fault)
			q, at, e = api.Program{}, f.at, f.e
		}
	}()
	at, e = lay.Check(p.Structs)
	need(e == api.OK, at, e)
	m.structs = p.Structs
	top := m.top(p)
	q.Structs, q.Vars = p.Structs, p.Vars
	for _, f := range p.Funcs {
		m.count, m.answer = 0, f.Type
		s := top
		params := f.Params
		f.Params = nil
		for _, v := range params {
			v, s = m.local(s, 1, v)
			f.Params = append(f.Params, v)
		}
		f.Body.Kids = m.stmts(s, 1, false, f.Body.Kids)
		q.Funcs = append(q.Funcs, f)
	}
	f := top.find("main")
	need(f != nil && f.kind == 'f', 0, api.ErrMain)
	return q, 0, api.OK
}

func newModel() *model { return &model{rows: readRows()} }
