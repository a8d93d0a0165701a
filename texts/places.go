package texts

import (
	"strconv"

	"hauberk/api"
)

// lvalue is one of just that type.
func (m *maker) lvalue(t api.Type, n int) string {
	l := m.seen(func(v made) bool { return v.t == t && v.len == 0 })
	if n < 1 || len(l) > 0 && m.Below(3) > 0 {
		if len(l) > 0 {
			return pick(m, l...).name
		}
		if l = m.seen(func(v made) bool { return v.t == t }); len(l) > 0 {
			v := pick(m, l...)
			return v.name + "[" + strconv.Itoa(m.Below(v.len)) + "]"
		}
	}
	if t.Stars < 3 && m.Below(2) == 0 {
		return m.through(t, n-1)
	}
	var of []field
	for _, f := range fields() {
		if f.t == t {
			of = append(of, f)
		}
	}
	if len(of) == 0 {
		return m.through(t, n-1)
	}
	f := pick(m, of...)
	l = m.seen(func(v made) bool { return v.t == f.of })
	if len(l) > 0 && (n < 1 || m.Below(2) == 0) {
		v := pick(m, l...)
		if v.len > 0 {
			return v.name + "[" + m.index(n-1) + "]." + f.name
		}
		return v.name + "." + f.name
	}
	return m.ptr(to(f.of, 1), n-1) + "->" + f.name
}

// through is what a pointer points to.
func (m *maker) through(t api.Type, n int) string {
	p := m.ptr(to(t, 1), n)
	if m.Below(2) == 0 {
		return "(*" + p + ")"
	}
	return p + "[" + m.index(n) + "]"
}

// askew is a pointer to the middle of a struct: so many of them on are a few bytes only, since all wraps round. So what was stored is loaded by another type.
func askew(t api.Type) string {
	if t == to(recS, 1) {
		return "(&gs + 0x0aaaaaaaaaaaaaab)"
	}
	return "(gt + 0x0ccccccccccccccd)"
}

// ptr is a pointer of just that type.
func (m *maker) ptr(t api.Type, n int) string {
	if t.Base == api.Record && t.Stars == 1 && !m.straight && m.rarely() {
		return askew(t)
	}
	if n > 0 {
		switch m.Below(9) {
		case 0, 1:
			return "(&" + m.lvalueOf(to(t, -1), n-1) + ")"
		case 2:
			return "(" + m.ptr(t, n-1) + pick(m, " + ", " + ", " - ") + m.index(n/2) + ")"
		case 3:
			return "(" + m.lvalue(t, n/2) + " = " + m.given(t, n/2) + ")"
		case 4:
			if x := m.called(func(a api.Type) bool { return a == t }, n-1); x != "" {
				return x
			}
		case 5:
			return m.malloc(t)
		}
	}
	l := m.seen(func(v made) bool { return v.len > 0 && to(v.t, 1) == t })
	if len(l) > 0 && m.Below(3) > 0 {
		return pick(m, l...).name
	}
	l = m.seen(func(v made) bool { return v.t == t && v.len == 0 })
	if len(l) > 0 && m.Below(8) > 0 {
		return pick(m, l...).name
	}
	l = m.seen(func(v made) bool { return v.len == 0 && to(v.t, 1) == t })
	if len(l) > 0 && m.Below(4) > 0 {
		return "(&" + pick(m, l...).name + ")"
	}
	return m.malloc(t)
}

func (m *maker) malloc(t api.Type) string {
	size := "2 * sizeof(" + written(to(t, -1)) + ")"
	if m.rarely() {
		size = m.num(1)
	}
	return "((" + written(t) + ") malloc(" + size + "))"
}

// lvalueOf may be a struct's, too.
func (m *maker) lvalueOf(t api.Type, n int) string {
	if t.Base != api.Record || t.Stars > 0 {
		return m.lvalue(t, n)
	}
	l := m.seen(func(v made) bool { return v.t == t && v.len == 0 })
	if len(l) > 0 && m.Below(3) > 0 {
		return pick(m, l...).name
	}
	return m.through(t, n)
}
