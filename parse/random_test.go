package parse_test

import (
	"math/rand"
	"reflect"
	"slices"
	"strconv"
	"strings"
	"testing"

	"hauberk/api"
	"hauberk/lex"
	"hauberk/parse"
)

// maker makes trees at random, and writes them as texts: in these it tells their places.
type maker struct {
	*rand.Rand
	strings.Builder
	last   string // the token that was written last
	places []int  // of all tokens
}

func newMaker(seed int64) *maker { return &maker{Rand: rand.New(rand.NewSource(seed))} }

func (m *maker) of(l ...string) string { return l[m.Intn(len(l))] }

func (m *maker) name() string { return m.of("a", "b", "p", "node", "x1", "_", "ints", "Main") }

func (m *maker) makeType() api.Type {
	t := api.Type{Base: m.Intn(5), Stars: max(0, m.Intn(9)-4)}
	if t.Base == api.Record {
		t.Struct = m.name()
	}
	return t
}

func (m *maker) makeVar() api.Var { return api.Var{Name: m.name(), Type: m.makeType()} }

func (m *maker) makeLen() int {
	return []int{0, 0, 1, 500, 1 + m.Intn(500)}[m.Intn(5)]
}

// makeExpr makes one of at most some n parts.
func (m *maker) makeExpr(n int) api.Expr {
	x := api.Expr{Kind: api.ENum + m.Intn(11)}
	if n <= 1 {
		x.Kind = api.ENum + m.Intn(2)
	}
	kids := 1
	switch x.Kind {
	case api.ENum:
		x.Num, kids = []uint64{0, 1, 65, 39, 92, 500, 501, 1 << 40, 1<<63 - 1}[m.Intn(9)], 0
	case api.EName:
		x.Name, kids = m.name(), 0
	case api.EUnary:
		x.Op = m.of("-", "~", "!", "*", "&")
	case api.EBinary:
		x.Op, kids = m.of("||", "&&", "|", "^", "&", "==", "!=", "<", "<=", ">", ">=", "<<", ">>", "+", "-", "*", "/", "%"), 2
	case api.EAssign, api.EIndex:
		kids = 2
	case api.ECall:
		x.Name, kids = m.name(), m.Intn(7)
	case api.EField:
		x.Name = m.name()
	case api.ESize:
		x.Type, kids = m.makeType(), 0
	default:
		x.Type = m.makeType()
	}
	for range kids {
		x.Kids = append(x.Kids, m.makeExpr((n-1)/kids))
	}
	return x
}

// endsOpen tells whether an else behind a statement would belong to an if at its end.
func endsOpen(s api.Stmt) bool {
	switch {
	case s.Kind == api.SIf && len(s.Kids) == 1:
		return true
	case s.Kind == api.SIf, s.Kind == api.SWhile:
		return endsOpen(s.Kids[len(s.Kids)-1])
	}
	return false
}

func (m *maker) makeStmts(n int) []api.Stmt {
	var l []api.Stmt
	for range m.Intn(4) {
		l = append(l, m.makeStmt(n/2))
	}
	return l
}

// makeStmt makes one of at most some n parts.
func (m *maker) makeStmt(n int) api.Stmt {
	s := api.Stmt{Kind: api.SBlock + m.Intn(8)}
	if n <= 1 {
		s.Kind = api.SReturn + m.Intn(4)
	}
	exprs := m.Intn(2)
	switch s.Kind {
	case api.SBlock:
		s.Kids, exprs = m.makeStmts(n), 0
	case api.SBreak, api.SContinue:
		exprs = 0
	case api.SWhile:
		s.Kids, exprs = []api.Stmt{m.makeStmt(n / 2)}, 1
	case api.SIf:
		s.Kids, exprs = []api.Stmt{m.makeStmt(n / 2)}, 1
		if !endsOpen(s.Kids[0]) && m.Intn(2) == 0 {
			s.Kids = append(s.Kids, m.makeStmt(n/2))
		}
	case api.SLocal:
		s.Var = m.makeVar()
		s.Var.Len = m.makeLen()
	}
	for range exprs {
		s.Exprs = append(s.Exprs, m.makeExpr(m.Intn(n+2)))
	}
	return s
}

// write writes a token, and ahead of it what may stand there; it answers the token's place.
func (m *maker) write(token string) int {
	gaps := []string{" ", "\n", "\t ", " /* ; */ ", " // }\n", "\r\n"}
	if l, _, e := lex.Lex(m.last + token); e == api.OK && len(l) == 3 && l[0].Text == m.last {
		gaps = append(gaps, "", "", "", "", "", "")
	}
	m.WriteString(m.of(gaps...))
	m.places = append(m.places, m.Len())
	m.WriteString(token)
	m.last = token
	return m.places[len(m.places)-1]
}

// first does what writes tokens, and answers the place of the first of them.
func (m *maker) first(write func()) int {
	n := len(m.places)
	write()
	return m.places[n]
}

func (m *maker) writeNum(n uint64) int {
	l := []string{strconv.FormatUint(n, 10), "0x" + strconv.FormatUint(n, 16), "0" + strconv.FormatUint(n, 10)}
	if n >= 32 && n < 127 && n != '\'' && n != '\\' {
		l = append(l, "'"+string([]byte{byte(n)})+"'")
	}
	return m.write(m.of(l...))
}

func (m *maker) writeType(t api.Type) int {
	return m.first(func() {
		m.write([]string{"void", "char", "int", "long", "struct"}[t.Base])
		if t.Base == api.Record {
			m.write(t.Struct)
		}
		for range t.Stars {
			m.write("*")
		}
	})
}

func (m *maker) writeVar(v *api.Var) {
	v.At = m.writeType(v.Type)
	m.write(v.Name)
	if v.Len != 0 {
		m.write("[")
		m.writeNum(uint64(v.Len))
		m.write("]")
	}
}

// level is how strongly an expression is held together: what is asked for where it stands must not be more, or ( ) are around it.
func level(x *api.Expr) int {
	switch x.Kind {
	case api.EAssign:
		return 0
	case api.EBinary:
		for i, ops := range []string{"||", "&&", "|", "^", "&", "== !=", "< <= > >=", "<< >>", "+ -", "* / %"} {
			if slices.Contains(strings.Fields(ops), x.Op) {
				return 1 + i
			}
		}
	case api.EUnary, api.ESize, api.ECast, api.EMalloc:
		return 11
	}
	return 12
}

func (m *maker) writeExpr(x *api.Expr, asked int) {
	if level(x) < asked || m.Intn(12) == 0 {
		m.write("(")
		m.writeExpr(x, 0)
		m.write(")")
		return
	}
	switch x.Kind {
	case api.ENum:
		x.At = m.writeNum(x.Num)
	case api.EName:
		x.At = m.write(x.Name)
	case api.EUnary:
		x.At = m.write(x.Op)
		m.writeExpr(&x.Kids[0], 11)
	case api.EBinary:
		m.writeTwo(x, level(x), x.Op, level(x)+1)
	case api.EAssign:
		m.writeTwo(x, 1, "=", 0)
	case api.EIndex:
		m.writeTwo(x, 12, "[", 0)
		m.write("]")
	case api.ECall:
		m.writeCall(x)
	case api.EField:
		m.writeField(x)
	default:
		m.writeOfType(x)
	}
}

func (m *maker) writeTwo(x *api.Expr, left int, sign string, right int) {
	m.writeExpr(&x.Kids[0], left)
	m.write(sign)
	m.writeExpr(&x.Kids[1], right)
	x.At = x.Kids[0].At
}

func (m *maker) writeCall(x *api.Expr) {
	x.At = m.write(x.Name)
	m.write("(")
	for i := range x.Kids {
		if i > 0 {
			m.write(",")
		}
		m.writeExpr(&x.Kids[i], 0)
	}
	m.write(")")
}

func (m *maker) writeField(x *api.Expr) {
	kid := &x.Kids[0]
	if kid.Kind == api.EUnary && kid.Op == "*" && m.Intn(3) > 0 {
		m.writeExpr(&kid.Kids[0], 12)
		kid.At = kid.Kids[0].At
		m.write("->")
	} else {
		m.writeExpr(kid, 12)
		m.write(".")
	}
	x.At = kid.At
	m.write(x.Name)
}

// writeOfType writes what has a type in it: a sizeof, a cast, a malloc.
func (m *maker) writeOfType(x *api.Expr) {
	x.At = m.first(func() {
		if x.Kind == api.ESize {
			m.write("sizeof")
		}
		m.write("(")
		m.writeType(x.Type)
		m.write(")")
	})
	switch x.Kind {
	case api.ECast:
		m.writeExpr(&x.Kids[0], 11)
	case api.EMalloc:
		m.write("malloc")
		m.write("(")
		m.writeExpr(&x.Kids[0], 0)
		m.write(")")
	}
}

func (m *maker) writeStmt(s *api.Stmt) {
	s.At = m.first(func() {
		switch s.Kind {
		case api.SBlock:
			m.write("{")
			for i := range s.Kids {
				m.writeStmt(&s.Kids[i])
			}
			m.write("}")
		case api.SIf, api.SWhile:
			m.writeConditioned(s)
		case api.SLocal:
			m.writeVar(&s.Var)
			if len(s.Exprs) > 0 {
				m.write("=")
			}
			m.writeMaybe(s)
		default:
			if s.Kind != api.SExpr {
				m.write([]string{"return", "break", "continue"}[s.Kind-api.SReturn])
			}
			m.writeMaybe(s)
		}
	})
}

func (m *maker) writeConditioned(s *api.Stmt) {
	m.write(map[int]string{api.SIf: "if", api.SWhile: "while"}[s.Kind])
	m.write("(")
	m.writeExpr(&s.Exprs[0], 0)
	m.write(")")
	for i := range s.Kids {
		if i > 0 {
			m.write("else")
		}
		m.writeStmt(&s.Kids[i])
	}
}

func (m *maker) writeMaybe(s *api.Stmt) {
	for i := range s.Exprs {
		m.writeExpr(&s.Exprs[i], 0)
	}
	m.write(";")
}

func (m *maker) makeStruct() api.Struct {
	s := api.Struct{Name: m.name()}
	m.write("struct")
	s.At = m.write(s.Name)
	m.write("{")
	for range m.Intn(5) {
		v := m.makeVar()
		m.writeVar(&v)
		m.write(";")
		s.Fields = append(s.Fields, api.Field{Name: v.Name, Type: v.Type, At: v.At})
	}
	m.write("}")
	m.write(";")
	return s
}

func (m *maker) makeFunc(n int) api.Func {
	v := m.makeVar()
	m.writeVar(&v)
	f := api.Func{Name: v.Name, Type: v.Type, At: v.At}
	m.write("(")
	for i := range m.Intn(7) {
		if i > 0 {
			m.write(",")
		}
		v := m.makeVar()
		m.writeVar(&v)
		f.Params = append(f.Params, v)
	}
	m.write(")")
	f.Body = api.Stmt{Kind: api.SBlock, Kids: m.makeStmts(n)}
	m.writeStmt(&f.Body)
	return f
}

// makeProgram makes one, and writes it.
func (m *maker) makeProgram(n int) api.Program {
	p := api.Program{}
	for range m.Intn(5) {
		switch m.Intn(3) {
		case 0:
			p.Structs = append(p.Structs, m.makeStruct())
		case 1:
			v := m.makeVar()
			v.Len = m.makeLen()
			m.writeVar(&v)
			m.write(";")
			p.Vars = append(p.Vars, v)
		case 2:
			p.Funcs = append(p.Funcs, m.makeFunc(n))
		}
	}
	m.WriteString(m.of("", "\n", "// end"))
	return p
}

// same tells whether two values are the same; lists that are empty and that are nil are.
func same(a, b reflect.Value) bool {
	switch a.Kind() {
	case reflect.Slice:
		if a.Len() != b.Len() {
			return false
		}
		for i := range a.Len() {
			if !same(a.Index(i), b.Index(i)) {
				return false
			}
		}
		return true
	case reflect.Struct:
		for i := range a.NumField() {
			if !same(a.Field(i), b.Field(i)) {
				return false
			}
		}
		return true
	}
	return a.Equal(b)
}

func samePrograms(p, q api.Program) bool { return same(reflect.ValueOf(p), reflect.ValueOf(q)) }

// P6.1: the trees of texts that were written from trees: all that is in them, and all places; where such a text is too deep, the rows tell it.
func TestTreesOfTexts(t *testing.T) {
	g := readRows()
	seen := map[api.Errno]int{}
	for seed := range int64(3000) {
		m := newMaker(seed)
		p := m.makeProgram(m.Intn(200))
		text := m.String()
		q, at, e := parse.Parse(text)
		seen[e]++
		switch {
		case e != api.OK:
			g.compare(t, text)
		case !samePrograms(p, q) || at != 0:
			t.Fatalf("P6.1: seed %d: Parse(%q): %s, want %s", seed, text, shown(q, at, e), shown(p, 0, api.OK))
		case parse.Tree(p) != parse.Tree(q):
			t.Fatalf("P6.1: seed %d: Tree of %s: %s, and then %s", seed, shown(p, 0, e), parse.Tree(p), parse.Tree(q))
		}
	}
	if seen[api.OK] < 2000 || seen[api.ErrSyntax]+seen[api.ErrRange] > 0 {
		t.Errorf("the samples are lopsided: %v", seen)
	}
}

// P6.1: of two ways to write a tree the Tree is the same: other blanks, numbers, brackets, arrows.
func TestOtherText(t *testing.T) {
	seen := map[api.Errno]int{}
	for seed := range int64(500) {
		body := api.Stmt{Kind: api.SBlock, Kids: newMaker(seed).makeStmts(30)}
		want := parse.Tree(api.Program{Funcs: []api.Func{{Name: "f", Body: body}}})
		for other := range int64(3) {
			m := newMaker(1000 + 3*seed + other)
			m.WriteString("void f()")
			m.writeStmt(&body)
			p, _, e := parse.Parse(m.String())
			seen[e]++
			if e == api.OK && parse.Tree(p) != want {
				t.Fatalf("P6.1: seed %d: Tree of %q: %s, want %s", seed, m.String(), parse.Tree(p), want)
			}
		}
	}
	if seen[api.OK] < 1000 {
		t.Errorf("the samples are lopsided: %v", seen)
	}
}

// P6.1: texts with a token that is gone, is another, is there twice, or with no end, against the chapter's rows.
func TestSpoilt(t *testing.T) {
	g := readRows()
	seen := map[api.Errno]int{}
	for seed := range int64(600) {
		m := newMaker(seed)
		m.makeProgram(m.Intn(30))
		tokens, _, _ := lex.Lex(m.String())
		l := []string{}
		for _, x := range tokens {
			l = append(l, x.Text)
		}
		for range 5 {
			i := m.Intn(len(l))
			k := slices.Clone(l)
			switch m.Intn(5) {
			case 0:
				k = slices.Delete(k, i, i+1)
			case 1:
				k = slices.Insert(k, i, m.of(all()...))
			case 2:
				k[i] = m.of(all()...)
			case 3:
				k = k[:i]
			case 4:
				k[i] = k[m.Intn(len(k))]
			}
			_, e := g.compare(t, strings.Join(k, " "))
			seen[e]++
		}
	}
	if seen[api.OK] < 100 || seen[api.ErrSyntax] < 1000 {
		t.Errorf("the samples are lopsided: %v", seen)
	}
}

// P6: each call answers, and none panics, of any bytes.
func TestNonePanics(t *testing.T) {
	for seed := range int64(5000) {
		m := newMaker(seed)
		b := make([]byte, m.Intn(100))
		m.Read(b)
		parse.Tree(first(parse.Parse(string(b))))
		for i := range b {
			b[i] = "int a;(){}[]*-1=,.>\n"[int(b[i])%20]
		}
		parse.Tree(first(parse.Parse(string(b))))
		parse.Tree(first(parse.Parse(before + string(b))))
	}
	for _, s := range []string{"(", "{", "~", "a[", "f(", "a=", "if(1)", "if(1);else ", "else ", "(int)", "*", "int*", "int f(", "struct s{", "a.", "a->", "1+", "sizeof(", "}", ")", ";"} {
		for _, n := range []int{41, 300, 1200, 10000} {
			for _, ahead := range []string{"", before, before + "a="} {
				parse.Tree(first(parse.Parse(ahead + times(n, s))))
			}
		}
	}
}

func first(p api.Program, _ int, _ api.Errno) api.Program { return p }

// P7 (R8): an answer doesn't hang on what was asked ahead of it.
func TestAsksAgain(t *testing.T) {
	ask := func(seed int64) []any {
		m := newMaker(seed)
		m.makeProgram(20)
		p, at, e := parse.Parse(m.String() + m.of("", "", "}", "@", "int a[0];", "int *****"))
		return []any{p, at, e, parse.Tree(p)}
	}
	l := [][]any{}
	for seed := range int64(200) {
		l = append(l, ask(seed))
	}
	for seed := int64(199); seed >= 0; seed-- {
		if again := ask(seed); !reflect.DeepEqual(again, l[seed]) {
			t.Fatalf("P7: R8: seed %d: %v, and then %v", seed, l[seed], again)
		}
	}
}
