package texts

import (
	"strconv"

	"hauberk/api"
)

func (m *maker) block(n int) string {
	was := len(m.vars)
	s := "{ "
	for range 1 + m.Below(4) {
		s += m.stmt(n)
	}
	m.vars = m.vars[:was]
	return s + "} "
}

// inner is the statement in an if or a while, mostly a block.
func (m *maker) inner(n int) string {
	switch m.Below(8) {
	case 0:
		return "putchar(" + m.num(n) + "); "
	case 1:
		return "int " + m.fresh("v") + " = " + m.num(n) + "; "
	case 2:
		return "if (" + m.cond(n) + ") " + m.lvalue(m.number(), n) + " = " + m.num(n) + "; "
	}
	return m.block(n)
}

func (m *maker) stmt(n int) string {
	if n > 1 {
		switch m.Below(9) {
		case 0:
			return "if (" + m.cond(n) + ") " + m.inner(n/2) + pick(m, "", "else "+m.inner(n/2))
		case 1, 2:
			return m.loop(n)
		case 3:
			return m.block(n / 2)
		}
	}
	switch m.Below(20) {
	case 0, 1, 2, 3:
		return m.local(n)
	case 4, 5, 6:
		return "putchar(" + m.num(n) + "); "
	case 7, 8:
		t := m.pointer()
		return m.lvalue(t, n/2) + " = " + m.given(t, n/2) + "; "
	case 9:
		if m.loops > 0 {
			return "if (" + m.cond(n/2) + ") " + pick(m, "break; ", "continue; ")
		}
	case 10:
		if m.Below(3) == 0 {
			return m.returning(n)
		}
		return "if (" + m.cond(n/2) + ") " + m.returning(n)
	case 11:
		if x := m.called(func(api.Type) bool { return true }, n); x != "" {
			return x + "; "
		}
		return pick(m, "; ", "if ("+m.cond(n/2)+") exit("+m.num(n)+"); ")
	case 12:
		return m.freeing(n)
	case 13:
		return m.ptr(m.pointer(), n) + "; "
	}
	return m.lvalue(m.number(), n/2) + " = " + m.num(n) + "; "
}

// freeing is mostly of a new block, which a variable may still point to.
func (m *maker) freeing(n int) string {
	t := m.pointer()
	l := m.seen(func(v made) bool { return v.t == t && v.len == 0 })
	switch {
	case m.rarely():
		return "free(" + m.ptr(t, n) + "); "
	case len(l) > 0 && m.Below(2) == 0:
		v := pick(m, l...).name
		return v + " = " + m.malloc(t) + "; free(" + v + "); " + m.after(v, t)
	}
	return "free(" + m.malloc(t) + "); "
}

// after is what is done to a variable whose block is gone: mostly it points elsewhere from then on.
func (m *maker) after(v string, t api.Type) string {
	if m.Below(m.wild) > 2 {
		return v + " = " + pick(m, "0", m.malloc(t), m.malloc(t), v) + "; "
	}
	what := "*" + v
	switch to(t, -1) {
	case recS:
		what = v + "->l"
	case recT:
		what = v + "->m"
	}
	return pick(m, "free("+v+"); ", what+" = 0; ", "putchar(!"+what+"); ")
}

func (m *maker) returning(n int) string {
	if m.answer == void {
		return "return; "
	}
	return "return " + m.given(m.answer, n) + "; "
}

// loop mostly ends.
func (m *maker) loop(n int) string {
	m.loops++
	defer func() { m.loops-- }()
	if m.rarely() {
		return "while (" + m.cond(n/2) + ") " + m.inner(n/2)
	}
	i := m.fresh("i")
	return "{ int " + i + " = 0; while ((" + i + " = " + i + " + 1) < " + strconv.Itoa(2+m.Below(4)) + ") " + m.inner(n/2) + "} "
}

func (m *maker) local(n int) string {
	v := made{name: m.fresh("v"), t: m.scalar()}
	switch m.Below(5) {
	case 0:
		v.len = 2 + m.Below(3)
	case 1:
		v.t = pick(m, recS, recT)
		v.len = pick(m, 0, 2)
	}
	s := written(v.t) + v.name
	switch {
	case v.len > 0:
		s += "[" + strconv.Itoa(v.len) + "]"
	case v.t == recS || v.t == recT:
	case v.t.Stars > 0 || m.Below(2) == 0:
		s += " = " + m.given(v.t, n)
	}
	m.vars = append(m.vars, v)
	return s + "; "
}
