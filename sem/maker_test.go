package sem_test

import (
	"math/rand"
	"strconv"
	"strings"

	"hauberk/api"
)

var (
	void = api.Type{Base: api.Void}
	char = api.Type{Base: api.Char}
	in   = api.Type{Base: api.Int}
	long = api.Type{Base: api.Long}
	recS = api.Type{Base: api.Record, Struct: "s"}
	recT = api.Type{Base: api.Record, Struct: "t"}
)

func to(t api.Type, stars int) api.Type {
	t.Stars += stars
	return t
}

// field is one of the structs that all random programs have.
type field struct {
	of   api.Type
	name string
	t    api.Type
}

func fields() []field {
	return []field{
		{recS, "c", char}, {recS, "i", in}, {recS, "l", long}, {recS, "p", to(in, 1)}, {recS, "n", to(recS, 1)}, {recS, "t", to(recT, 1)}, {recS, "q", to(in, 2)},
		{recT, "d", char}, {recT, "s", to(recS, 1)}, {recT, "m", long}, {recT, "e", in}, {recT, "b", to(char, 1)},
	}
}

// maker makes texts of programs at random, all of them right; most go on for a while before they go wrong, if they do.
type maker struct {
	*rand.Rand
	wild   int // one of so many pointers is anything
	vars   []made
	funcs  []madeFunc
	answer api.Type
	loops  int
	count  int
}

type made struct {
	name string
	t    api.Type
	len  int
}

type madeFunc struct {
	name   string
	answer api.Type
	params []api.Type
}

func pick[T any](r *rand.Rand, l ...T) T { return l[r.Intn(len(l))] }

func (m *maker) fresh(prefix string) string {
	m.count++
	return prefix + strconv.Itoa(m.count)
}

func written(t api.Type) string {
	return []string{"void", "char", "int", "long", "struct " + t.Struct}[t.Base] + " " + strings.Repeat("*", t.Stars)
}

func (m *maker) number() api.Type { return pick(m.Rand, char, in, in, long) }

func (m *maker) pointer() api.Type {
	return pick(m.Rand, to(in, 1), to(in, 1), to(in, 1), to(char, 1), to(long, 1), to(recS, 1), to(recS, 1), to(recT, 1), to(in, 2), to(recS, 2))
}

func (m *maker) scalar() api.Type {
	if m.Intn(5) < 2 {
		return m.pointer()
	}
	return m.number()
}

func (m *maker) rarely() bool { return m.Intn(m.wild) == 0 }

// seen are the variables that are as is asked for.
func (m *maker) seen(is func(made) bool) []made {
	var l []made
	for _, v := range m.vars {
		if is(v) {
			l = append(l, v)
		}
	}
	return l
}

func (m *maker) literal() string {
	if m.Intn(4) == 0 {
		return pick(m.Rand, "255", "128", "300", "65536", "2147483647", "2147483648", "4294967297", "9223372036854775807", "0x7fffffff", "0x8000000000")
	}
	return strconv.Itoa(m.Intn(9))
}

// index is mostly a small number.
func (m *maker) index(n int) string {
	switch {
	case m.rarely():
		return m.num(n)
	case m.Intn(3) == 0:
		return "(" + m.num(n/2) + " & 1)"
	}
	return strconv.Itoa(m.Intn(2))
}

// num is a number, of some n parts at most.
func (m *maker) num(n int) string {
	if n < 1 {
		if m.Intn(2) == 0 {
			return m.literal()
		}
		return m.lvalue(m.number(), 0)
	}
	switch m.Intn(16) {
	case 0, 1, 2:
		return "(" + m.num(n/2) + pick(m.Rand, " + ", " - ", " * ", " / ", " % ", " & ", " | ", " ^ ", " << ", " >> ") + m.num(n/2) + ")"
	case 3:
		return "(" + m.num(n/2) + pick(m.Rand, " < ", " <= ", " > ", " >= ", " == ", " != ") + m.num(n/2) + ")"
	case 4:
		return "(" + m.cond(n/2) + pick(m.Rand, " && ", " || ") + m.cond(n/2) + ")"
	case 5:
		return pick(m.Rand, "-", "~", "!") + "(" + m.num(n-1) + ")"
	case 6:
		return "(" + written(m.number()) + ") (" + m.num(n-1) + ")"
	case 7:
		p := m.ptr(m.pointer(), n/2)
		return pick(m.Rand, "!"+p, "("+p+" == 0)", "(0 != "+p+")", "(0 == "+p+")", "("+p+" != 0)")
	case 8, 9:
		return "(" + m.lvalue(m.number(), n/2) + " = " + m.num(n/2) + ")"
	case 10, 11:
		if x := m.called(func(t api.Type) bool { return t.Stars == 0 && t != void }, n-1); x != "" {
			return x
		}
	case 12:
		return pick(m.Rand, "getchar()", "sizeof("+written(m.scalar())+")", "sizeof(struct s)")
	}
	return m.lvalue(m.number(), n-1)
}

// cond is a number or a pointer.
func (m *maker) cond(n int) string {
	if m.Intn(4) == 0 {
		return m.ptr(m.pointer(), n)
	}
	return m.num(n)
}

// called is a call of a function that answers what is asked for; nothing, if none was found.
func (m *maker) called(is func(api.Type) bool, n int) string {
	for range 4 {
		if len(m.funcs) == 0 {
			return ""
		}
		f := pick(m.Rand, m.funcs...)
		if !is(f.answer) {
			continue
		}
		var args []string
		for _, t := range f.params {
			args = append(args, m.given(t, n/(1+len(f.params))))
		}
		return f.name + "(" + strings.Join(args, ", ") + ")"
	}
	return ""
}

// given is what may stand where a type is asked for.
func (m *maker) given(t api.Type, n int) string {
	switch {
	case t.Stars == 0:
		return m.num(n)
	case m.Intn(12) == 0:
		return "0"
	}
	return m.ptr(t, n)
}

// lvalue is one of just that type.
func (m *maker) lvalue(t api.Type, n int) string {
	l := m.seen(func(v made) bool { return v.t == t && v.len == 0 })
	if n < 1 || len(l) > 0 && m.Intn(3) > 0 {
		if len(l) > 0 {
			return pick(m.Rand, l...).name
		}
		if l = m.seen(func(v made) bool { return v.t == t }); len(l) > 0 {
			v := pick(m.Rand, l...)
			return v.name + "[" + strconv.Itoa(m.Intn(v.len)) + "]"
		}
	}
	if t.Stars < 3 && m.Intn(2) == 0 {
		return m.through(t, n-1)
	}
	var of []field
	for _, f := range fields() {
		if f.t == t {
			of = append(of, f)
		}
	}
	if len(of) == 0 {
		return m.through(t, n-1)
	}
	f := pick(m.Rand, of...)
	l = m.seen(func(v made) bool { return v.t == f.of })
	if len(l) > 0 && (n < 1 || m.Intn(2) == 0) {
		v := pick(m.Rand, l...)
		if v.len > 0 {
			return v.name + "[" + m.index(n-1) + "]." + f.name
		}
		return v.name + "." + f.name
	}
	return m.ptr(to(f.of, 1), n-1) + "->" + f.name
}

// through is what a pointer points to.
func (m *maker) through(t api.Type, n int) string {
	p := m.ptr(to(t, 1), n)
	if m.Intn(2) == 0 {
		return "(*" + p + ")"
	}
	return p + "[" + m.index(n) + "]"
}

// ptr is a pointer of just that type.
func (m *maker) ptr(t api.Type, n int) string {
	if n > 0 {
		switch m.Intn(9) {
		case 0, 1:
			return "(&" + m.lvalueOf(to(t, -1), n-1) + ")"
		case 2:
			return "(" + m.ptr(t, n-1) + pick(m.Rand, " + ", " + ", " - ") + m.index(n/2) + ")"
		case 3:
			return "(" + m.lvalue(t, n/2) + " = " + m.given(t, n/2) + ")"
		case 4:
			if x := m.called(func(a api.Type) bool { return a == t }, n-1); x != "" {
				return x
			}
		case 5:
			return m.malloc(t)
		}
	}
	l := m.seen(func(v made) bool { return v.len > 0 && to(v.t, 1) == t })
	if len(l) > 0 && m.Intn(3) > 0 {
		return pick(m.Rand, l...).name
	}
	l = m.seen(func(v made) bool { return v.t == t && v.len == 0 })
	if len(l) > 0 && m.Intn(8) > 0 {
		return pick(m.Rand, l...).name
	}
	l = m.seen(func(v made) bool { return v.len == 0 && to(v.t, 1) == t })
	if len(l) > 0 && m.Intn(4) > 0 {
		return "(&" + pick(m.Rand, l...).name + ")"
	}
	return m.malloc(t)
}

func (m *maker) malloc(t api.Type) string {
	size := "2 * sizeof(" + written(to(t, -1)) + ")"
	if m.rarely() {
		size = m.num(1)
	}
	return "((" + written(t) + ") malloc(" + size + "))"
}

// lvalueOf may be a struct's, too.
func (m *maker) lvalueOf(t api.Type, n int) string {
	if t.Base != api.Record || t.Stars > 0 {
		return m.lvalue(t, n)
	}
	l := m.seen(func(v made) bool { return v.t == t && v.len == 0 })
	if len(l) > 0 && m.Intn(3) > 0 {
		return pick(m.Rand, l...).name
	}
	return m.through(t, n)
}

func (m *maker) block(n int) string {
	was := len(m.vars)
	s := "{ "
	for range 1 + m.Intn(4) {
		s += m.stmt(n)
	}
	m.vars = m.vars[:was]
	return s + "} "
}

func (m *maker) stmt(n int) string {
	if n > 1 {
		switch m.Intn(9) {
		case 0:
			return "if (" + m.cond(n) + ") " + m.block(n/2) + pick(m.Rand, "", "else "+m.block(n/2))
		case 1, 2:
			return m.loop(n)
		case 3:
			return m.block(n / 2)
		}
	}
	switch m.Intn(20) {
	case 0, 1, 2, 3:
		return m.local(n)
	case 4, 5, 6:
		return "putchar(" + m.num(n) + "); "
	case 7, 8:
		t := m.pointer()
		return m.lvalue(t, n/2) + " = " + m.given(t, n/2) + "; "
	case 9:
		if m.loops > 0 {
			return "if (" + m.cond(n/2) + ") " + pick(m.Rand, "break; ", "continue; ")
		}
	case 10:
		if m.Intn(3) == 0 {
			return m.returning(n)
		}
		return "if (" + m.cond(n/2) + ") " + m.returning(n)
	case 11:
		if x := m.called(func(api.Type) bool { return true }, n); x != "" {
			return x + "; "
		}
		return pick(m.Rand, "; ", "if ("+m.cond(n/2)+") exit("+m.num(n)+"); ")
	case 12:
		return m.freeing(n)
	case 13:
		return m.ptr(m.pointer(), n) + "; "
	}
	return m.lvalue(m.number(), n/2) + " = " + m.num(n) + "; "
}

// freeing is mostly of a new block, which a variable may still point to.
func (m *maker) freeing(n int) string {
	t := m.pointer()
	l := m.seen(func(v made) bool { return v.t == t && v.len == 0 })
	switch {
	case m.rarely():
		return "free(" + m.ptr(t, n) + "); "
	case len(l) > 0 && m.Intn(2) == 0:
		v := pick(m.Rand, l...).name
		return v + " = " + m.malloc(t) + "; free(" + v + "); " + pick(m.Rand, v+" = 0; ", v+" = "+m.malloc(t)+"; ", v+" = "+m.malloc(t)+"; ", "")
	}
	return "free(" + m.malloc(t) + "); "
}

func (m *maker) returning(n int) string {
	if m.answer == void {
		return "return; "
	}
	return "return " + m.given(m.answer, n) + "; "
}

// loop mostly ends.
func (m *maker) loop(n int) string {
	m.loops++
	defer func() { m.loops-- }()
	if m.rarely() {
		return "while (" + m.cond(n/2) + ") " + m.block(n/2)
	}
	i := m.fresh("i")
	return "{ int " + i + " = 0; while ((" + i + " = " + i + " + 1) < " + strconv.Itoa(2+m.Intn(4)) + ") " + m.block(n/2) + "} "
}

func (m *maker) local(n int) string {
	v := made{name: m.fresh("v"), t: m.scalar()}
	switch m.Intn(5) {
	case 0:
		v.len = 2 + m.Intn(3)
	case 1:
		v.t = pick(m.Rand, recS, recT)
		v.len = pick(m.Rand, 0, 2)
	}
	s := written(v.t) + v.name
	switch {
	case v.len > 0:
		s += "[" + strconv.Itoa(v.len) + "]"
	case v.t == recS || v.t == recT:
	case v.t.Stars > 0 || m.Intn(2) == 0:
		s += " = " + m.given(v.t, n)
	}
	m.vars = append(m.vars, v)
	return s + "; "
}

// function is one of those that are told already in funcs.
func (m *maker) function(f madeFunc, n int) string {
	was := len(m.vars)
	m.answer = f.answer
	var params []string
	for _, t := range f.params {
		v := made{name: m.fresh("a"), t: t}
		m.vars = append(m.vars, v)
		params = append(params, written(t)+v.name)
	}
	s := written(f.answer) + f.name + "(" + strings.Join(params, ", ") + ") { "
	for range 2 + m.Intn(4) {
		s += m.stmt(n)
	}
	if f.answer != void && m.Intn(4) > 0 {
		s += m.returning(n)
	}
	m.vars = m.vars[:was]
	return s + "} "
}

func (m *maker) program() string {
	s := ""
	for _, r := range []api.Type{recS, recT} {
		s += "struct " + r.Struct + " { "
		for _, f := range fields() {
			if f.of == r {
				s += written(f.t) + f.name + "; "
			}
		}
		s += "}; "
	}
	setup := ""
	for _, v := range []made{{"gc", char, 0}, {"gi", in, 0}, {"gl", long, 0}, {"ga", in, 4}, {"gb", char, 3}, {"gm", long, 2}, {"gs", recS, 0}, {"gt", recT, 2}, {"gp", to(in, 1), 0}, {"gq", to(recS, 1), 0}, {"gr", to(in, 1), 2}} {
		s += written(v.t) + v.name
		if v.len > 0 {
			s += "[" + strconv.Itoa(v.len) + "]"
		}
		s += "; "
		m.vars = append(m.vars, v)
	}
	for _, x := range []string{"gp = ga; ", "gq = &gs; ", "gs.n = &gs; ", "gs.p = &gi; ", "gs.t = gt; ", "gs.q = gr; ", "gt[0].s = &gs; ", "gt[0].b = gb; ", "gr[0] = ga; ", "gr[1] = &gi; ", "gt[1].s = (struct s *) malloc(sizeof(struct s)); "} {
		if !m.rarely() {
			setup += x
		}
	}
	all := []madeFunc{{"main", in, nil}}
	for range 1 + m.Intn(3) {
		f := madeFunc{name: m.fresh("f"), answer: pick(m.Rand, void, m.scalar(), m.scalar())}
		for range m.Intn(4) {
			f.params = append(f.params, m.scalar())
		}
		all = append(all, f)
	}
	for k, f := range all {
		m.funcs = all[k+1:]
		if m.Intn(4) == 0 {
			m.funcs = all
		}
		text := m.function(f, 5)
		if f.name == "main" {
			text = strings.Replace(text, "{ ", "{ "+setup, 1)
		}
		s += text
	}
	return s
}
