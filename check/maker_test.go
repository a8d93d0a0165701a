package check_test

import (
	"math/rand"
	"strconv"
	"strings"

	"hauberk/api"
)

// maker makes texts of programs at random, most of which are right, but for what is made odd now and then.
type maker struct {
	*rand.Rand
	odd     int // one of so many expressions is anything
	vars    []madeVar
	funcs   []madeFunc
	answer  api.Type
	loops   int
	names   []string
	structs []madeStruct
}

// madeVar is a variable that is known, in a block that is so deep.
type madeVar struct {
	name  string
	t     api.Type
	array bool
	depth int
}

type madeFunc struct {
	name   string
	answer api.Type
	params []api.Type
}

type madeStruct struct {
	name   string
	fields []madeVar
}

func newMaker(seed int64, odd int) *maker {
	m := &maker{Rand: rand.New(rand.NewSource(seed)), odd: odd}
	m.names = []string{"a", "b", "c", "d", "p", "q", "x", "y", "f", "g", "h", "s", "free", "main"}
	return m
}

func pick[T any](m *maker, l ...T) T { return l[m.Intn(len(l))] }

func (m *maker) number() api.Type { return pick(m, char, in, in, long) }

func (m *maker) record() api.Type {
	return api.Type{Base: api.Record, Struct: pick(m, "s", "s", "t")}
}

// value is a type of values.
func (m *maker) value() api.Type {
	switch m.Intn(14) {
	case 0:
		return to(m.number(), 1+m.Intn(4))
	case 1, 2:
		return to(in, 1)
	case 3:
		return to(char, 1)
	case 4, 5:
		return to(m.record(), 1)
	case 6:
		return to(m.record(), 2)
	case 7:
		return to(void, 1+m.Intn(2))
	}
	return m.number()
}

// any is a type of whatever kind.
func (m *maker) any() api.Type {
	switch m.Intn(6) {
	case 0:
		return void
	case 1:
		return m.record()
	case 2:
		return api.Type{Base: api.Record, Struct: "u", Stars: m.Intn(3)}
	}
	return m.value()
}

func (m *maker) rarely() bool { return m.odd > 0 && m.Intn(m.odd) == 0 }

func written(t api.Type) string {
	s := []string{"void", "char", "int", "long", "struct " + t.Struct}[t.Base]
	return s + " " + strings.Repeat("*", t.Stars)
}

// seen are the variables whose names mean just them.
func (m *maker) seen(is func(madeVar) bool) []madeVar {
	var l []madeVar
	hidden := map[string]int{}
	for i := len(m.vars) - 1; i >= 0; i-- {
		v := m.vars[i]
		if hidden[v.name] == 0 && is(v) {
			l = append(l, v)
		}
		hidden[v.name]++
	}
	return l
}

func (m *maker) oddExpr(n int) string {
	switch m.Intn(6) {
	case 0:
		return pick(m, m.names...)
	case 1:
		return pick(m, m.names...) + "(" + m.expr(m.value(), n/2) + ")"
	case 2:
		return "(" + m.expr(m.value(), n/2) + ")" + pick(m, ".", "->") + pick(m, "c", "l", "p", "n", "z")
	case 3:
		return "((" + written(m.any()) + ")" + pick(m, "", "malloc") + "(" + m.expr(m.value(), n/2) + "))"
	case 4:
		return "(" + m.expr(m.value(), n/2) + pick(m, "+", "-", "*", "==", "<", "&&", "<<", "=", "|") + m.expr(m.value(), n/2) + ")"
	}
	return pick(m, "&", "*", "-", "!", "~") + "(" + m.expr(m.value(), n/2) + ")"
}

// expr is one of at most some n parts, that may stand where a type is asked for.
func (m *maker) expr(t api.Type, n int) string {
	switch {
	case m.rarely():
		return m.oddExpr(n)
	case t.Stars > 0:
		return m.pointer(t, n)
	}
	return m.reckon(n)
}

// lvalue is one of just that type; false, if none was found.
func (m *maker) lvalue(t api.Type, n int) (string, bool) {
	if n > 2 {
		switch m.Intn(4) {
		case 0:
			return m.part(t, n)
		case 1:
			if t.Stars < 4 && t != void {
				return "(*" + m.expr(to(t, 1), n/2) + ")", true
			}
		case 2:
			if t.Stars < 4 && t != void {
				return m.pointer(to(t, 1), n/2) + "[" + m.reckon(n/2) + "]", true
			}
		}
	}
	l := m.seen(func(v madeVar) bool { return v.t == t && !v.array })
	if len(l) == 0 {
		return "", false
	}
	return pick(m, l...).name, true
}

// part is a field of that type.
func (m *maker) part(t api.Type, n int) (string, bool) {
	for _, s := range m.structs {
		for _, f := range s.fields {
			whole, ok := m.lvalue(api.Type{Base: api.Record, Struct: s.name}, n/2)
			if f.t == t && ok {
				return whole + "." + f.name, true
			}
			if f.t == t {
				return m.pointer(api.Type{Base: api.Record, Struct: s.name, Stars: 1}, n/2) + "->" + f.name, true
			}
		}
	}
	return "", false
}

func (m *maker) call(is func(api.Type) bool, n int) (string, bool) {
	for range 3 {
		f := pick(m, m.funcs...)
		if !is(f.answer) || len(m.seen(func(v madeVar) bool { return v.name == f.name })) > 0 {
			continue
		}
		var l []string
		for _, t := range f.params {
			l = append(l, m.expr(t, n/(1+len(f.params))))
		}
		return f.name + "(" + strings.Join(l, ", ") + ")", true
	}
	return "", false
}

func (m *maker) pointer(t api.Type, n int) string {
	if n > 1 {
		switch m.Intn(8) {
		case 0:
			if x, ok := m.lvalue(to(t, -1), n/2); ok {
				return "(&" + x + ")"
			}
		case 1:
			if t != to(void, 1) {
				return "(" + m.pointer(t, n/2) + pick(m, " + ", " - ") + m.reckon(n/2) + ")"
			}
		case 2:
			if t != to(void, 1) {
				return "((" + written(t) + ") malloc(" + m.reckon(n/2) + "))"
			}
		case 3:
			if x, ok := m.call(func(a api.Type) bool { return a == t }, n); ok {
				return x
			}
		case 4:
			if x, ok := m.lvalue(t, n/2); ok {
				return "(" + x + " = " + m.expr(t, n/2) + ")"
			}
		case 5:
			if x, ok := m.lvalue(t, n); ok {
				return x
			}
		}
	}
	l := m.seen(func(v madeVar) bool { return v.t == t && !v.array || to(v.t, 1) == t && v.array })
	switch {
	case len(l) > 0:
		return pick(m, l...).name
	case t != to(void, 1):
		return "((" + written(t) + ") malloc(8))"
	}
	return "*((void **) malloc(8))"
}

// reckon is a number.
func (m *maker) reckon(n int) string {
	if n > 1 {
		switch m.Intn(11) {
		case 0, 1:
			return m.two(n)
		case 2:
			return pick(m, "-", "~", "!") + "(" + m.expr(in, n/2) + ")"
		case 3:
			return "!(" + m.expr(m.value(), n/2) + ")"
		case 4:
			return "(" + written(m.number()) + ")(" + m.expr(in, n/2) + ")"
		case 5:
			return "sizeof(" + written(pick(m, m.value(), m.record())) + ")"
		case 6:
			if x, ok := m.call(func(a api.Type) bool { return scalar(a) && a.Stars == 0 }, n); ok {
				return x
			}
		case 7:
			if x, ok := m.lvalue(m.number(), n/2); ok {
				return "(" + x + " = " + m.expr(in, n/2) + ")"
			}
		case 8, 9:
			if x, ok := m.lvalue(m.number(), n); ok {
				return x
			}
		case 10:
			p := m.value()
			if p.Stars > 0 {
				return "(" + pick(m, m.pointer(p, n/2)+" == 0", "0 != "+m.pointer(p, n/2)) + ")"
			}
		}
	}
	l := m.seen(func(v madeVar) bool { return scalar(v.t) && v.t.Stars == 0 && !v.array })
	if len(l) > 0 && m.Intn(3) > 0 {
		return pick(m, l...).name
	}
	return pick(m, "0", "1", "300", "'a'", "2147483647", "2147483648", "0x7fffffffffffffff")
}

func (m *maker) two(n int) string {
	op := pick(m, "+", "-", "*", "/", "%", "&", "^", "|", "<<", ">>", "<", "<=", ">", ">=", "==", "!=")
	a, b := m.expr(in, n/2), m.expr(in, n/2)
	if m.Intn(5) == 0 {
		op = pick(m, "&&", "||")
		a = m.expr(m.value(), n/2)
	}
	if m.odd > 0 && m.Intn(4) == 0 {
		return a + " " + op + " " + b
	}
	return "(" + a + " " + op + " " + b + ")"
}

// fresh is a name that the block that is so deep hasn't yet.
func (m *maker) fresh(depth int) string {
	for range 10 {
		name := pick(m, m.names...)
		if m.rarely() || len(m.seen(func(v madeVar) bool { return v.name == name && v.depth == depth })) == 0 {
			return name
		}
	}
	return "z" + strconv.Itoa(m.Intn(1000))
}

func (m *maker) block(depth, n int) string {
	was := len(m.vars)
	s := "{ "
	for range m.Intn(5) {
		s += m.stmt(depth, n/2)
	}
	m.vars = m.vars[:was]
	return s + "} "
}

// alone is a statement in a block of its own, which no else behind it belongs to.
func (m *maker) alone(depth, n int) string {
	was := len(m.vars)
	s := m.stmt(depth, n/2)
	m.vars = m.vars[:was]
	if strings.HasPrefix(s, "if") || strings.HasPrefix(s, "while") {
		s = "{ " + s + "} "
	}
	return s
}

// stmt is one in a block that is so deep.
func (m *maker) stmt(depth, n int) string {
	if n > 1 {
		switch m.Intn(7) {
		case 0:
			return m.block(depth+1, n)
		case 1:
			s := "if (" + m.expr(m.value(), n) + ") " + m.alone(depth+1, n)
			if m.Intn(2) == 0 {
				s += "else " + m.alone(depth+1, n)
			}
			return s
		case 2:
			s := "while (" + m.expr(m.value(), n) + ") "
			m.loops++
			s += m.alone(depth+1, n)
			m.loops--
			return s
		}
	}
	switch m.Intn(6) {
	case 0, 1:
		return m.local(depth, n)
	case 2:
		if m.loops > 0 || m.rarely() {
			return pick(m, "break; ", "continue; ")
		}
	case 3:
		if (m.answer == void) == !m.rarely() {
			return "return; "
		}
		return "return " + m.expr(m.answer, n) + "; "
	case 4:
		if x, ok := m.call(func(api.Type) bool { return true }, n); ok {
			return x + "; "
		}
		return "; "
	}
	return m.expr(m.value(), n) + "; "
}

func (m *maker) local(depth, n int) string {
	v := madeVar{name: m.fresh(depth), t: m.value(), depth: depth, array: m.Intn(4) == 0}
	if m.Intn(5) == 0 {
		v.t = m.record()
	}
	if m.rarely() {
		v.t = m.any()
	}
	s := written(v.t) + v.name
	if v.array {
		s += "[" + strconv.Itoa(1+m.Intn(9)) + "]"
	}
	if !v.array && scalar(v.t) && m.Intn(2) == 0 || m.rarely() {
		s += " = " + m.expr(v.t, n)
	}
	m.vars = append(m.vars, v)
	return s + "; "
}

// typed is a variable's, a param's or a function's type, by a chance to be odd.
func (m *maker) typed(t api.Type) api.Type {
	if m.rarely() {
		return m.any()
	}
	return t
}

func (m *maker) structures() string {
	m.structs = []madeStruct{{name: "s"}, {name: "t"}}
	text := ""
	for i := range m.structs {
		s := &m.structs[i]
		text += "struct " + s.name + " { "
		for k, name := range []string{"c", "i", "l", "p", "n", "t"} {
			f := madeVar{name: name, t: []api.Type{char, in, long, to(m.number(), 1), to(m.record(), 1), m.value()}[k]}
			if f.t.Base == api.Void {
				f.t = in
			}
			if m.Intn(2) == 0 || k == 0 {
				s.fields = append(s.fields, f)
				text += written(f.t) + f.name + "; "
			}
		}
		text += "}; "
	}
	return text
}

// program is the text of one; its variables and functions stand in any order.
func (m *maker) program(n int) string {
	texts := []string{m.structures()}
	free := to(m.number(), 1+m.Intn(3))
	m.funcs = []madeFunc{{"putchar", void, []api.Type{in}}, {"getchar", in, nil}, {"exit", void, []api.Type{in}}, {"free", void, []api.Type{free}}}
	for i := range m.Intn(6) {
		v := madeVar{name: pick(m, "a", "b", "p", "s") + strconv.Itoa(i), t: m.typed(pick(m, m.value(), m.value(), m.record())), array: m.Intn(3) == 0}
		if m.rarely() {
			v.name = pick(m, m.names...)
		}
		texts = append(texts, written(v.t)+v.name+map[bool]string{true: "[3]"}[v.array]+"; ")
		m.vars = append(m.vars, v)
	}
	for i := range m.Intn(4) {
		f := madeFunc{name: []string{"f", "g", "h"}[i%3], answer: m.typed(pick(m, void, m.value()))}
		if m.rarely() {
			f.name = pick(m, m.names...)
		}
		for range m.Intn(4) {
			f.params = append(f.params, m.typed(m.value()))
		}
		m.funcs = append(m.funcs, f)
	}
	m.funcs = append(m.funcs, madeFunc{name: "main", answer: m.typed(in)})
	for _, f := range m.funcs[4:] {
		texts = append(texts, m.function(f, n))
	}
	if m.rarely() {
		texts = texts[:len(texts)-1]
	}
	m.Shuffle(len(texts), func(i, k int) { texts[i], texts[k] = texts[k], texts[i] })
	return strings.Join(texts, "\n")
}

func (m *maker) function(f madeFunc, n int) string {
	was := len(m.vars)
	m.answer = f.answer
	var l []string
	for _, t := range f.params {
		v := madeVar{name: m.fresh(1), t: t, depth: 1}
		m.vars = append(m.vars, v)
		l = append(l, written(t)+v.name)
	}
	s := written(f.answer) + f.name + "(" + strings.Join(l, ", ") + ") { "
	for range 1 + m.Intn(6) {
		s += m.stmt(1, n)
	}
	m.vars = m.vars[:was]
	return s + "} "
}
