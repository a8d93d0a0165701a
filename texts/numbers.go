package texts

import (
	"strconv"
	"strings"

	"hauberk/api"
)

func (m *maker) literal() string {
	if m.Below(4) == 0 {
		return pick(m, "255", "128", "300", "65536", "2147483647", "2147483648", "4294967297", "9223372036854775807", "0x7fffffff", "0x8000000000")
	}
	return strconv.Itoa(m.Below(9))
}

// index is mostly a small number.
func (m *maker) index(n int) string {
	switch {
	case m.rarely():
		return m.num(n)
	case m.Below(3) == 0:
		return "(" + m.num(n/2) + " & 1)"
	}
	return strconv.Itoa(m.Below(2))
}

// num is a number, of some n parts at most.
func (m *maker) num(n int) string {
	if n < 1 {
		if m.Below(2) == 0 {
			return m.literal()
		}
		return m.lvalue(m.number(), 0)
	}
	switch m.Below(16) {
	case 0, 1, 2:
		return "(" + m.num(n/2) + pick(m, " + ", " - ", " * ", " / ", " % ", " & ", " | ", " ^ ", " << ", " >> ") + m.num(n/2) + ")"
	case 3:
		return "(" + m.num(n/2) + pick(m, " < ", " <= ", " > ", " >= ", " == ", " != ") + m.num(n/2) + ")"
	case 4:
		return "(" + m.cond(n/2) + pick(m, " && ", " || ") + m.cond(n/2) + ")"
	case 5:
		return pick(m, "-", "~", "!") + "(" + m.num(n-1) + ")"
	case 6:
		return "(" + written(m.number()) + ") (" + m.num(n-1) + ")"
	case 7:
		p := m.ptr(m.pointer(), n/2)
		return pick(m, "!"+p, "("+p+" == 0)", "(0 != "+p+")", "(0 == "+p+")", "("+p+" != 0)")
	case 8, 9:
		return "(" + m.lvalue(m.number(), n/2) + " = " + m.num(n/2) + ")"
	case 10, 11:
		if x := m.called(func(t api.Type) bool { return t.Stars == 0 && t != void }, n-1); x != "" {
			return x
		}
	case 12:
		return pick(m, "getchar()", "sizeof("+written(m.scalar())+")", "sizeof(struct s)")
	}
	return m.lvalue(m.number(), n-1)
}

// cond is a number or a pointer.
func (m *maker) cond(n int) string {
	if m.Below(4) == 0 {
		return m.ptr(m.pointer(), n)
	}
	return m.num(n)
}

// called is a call of a function that answers what is asked for; nothing, if none was found.
func (m *maker) called(is func(api.Type) bool, n int) string {
	for range 4 {
		if len(m.funcs) == 0 {
			return ""
		}
		f := pick(m, m.funcs...)
		if !is(f.answer) {
			continue
		}
		var args []string
		for _, t := range f.params {
			args = append(args, m.given(t, n/(1+len(f.params))))
		}
		return f.name + "(" + strings.Join(args, ", ") + ")"
	}
	return ""
}

// given is what may stand where a type is asked for.
func (m *maker) given(t api.Type, n int) string {
	switch {
	case t.Stars == 0:
		return m.num(n)
	case m.Below(12) == 0:
		return "0"
	}
	return m.ptr(t, n)
}
