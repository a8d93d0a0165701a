package texts

import (
	"strconv"
	"strings"

	"hauberk/api"
)

// function is one of those that are told already in funcs; ahead of its statements stand those of first.
func (m *maker) function(f madeFunc, first string, n int) string {
	was := len(m.vars)
	m.answer = f.answer
	var params []string
	for _, t := range f.params {
		v := made{name: m.fresh("a"), t: t}
		m.vars = append(m.vars, v)
		params = append(params, written(t)+v.name)
	}
	s := written(f.answer) + f.name + "(" + strings.Join(params, ", ") + ") { " + first
	for range 2 + m.Below(4) {
		s += m.stmt(n)
	}
	if f.answer != void && m.Below(4) > 0 {
		s += m.returning(n)
	}
	m.vars = m.vars[:was]
	return s + "} "
}

func (m *maker) program() string {
	s := structs() + m.variables()
	all := []madeFunc{{"main", in, nil}}
	for range 1 + m.Below(3) {
		all = append(all, m.head())
	}
	first := m.setup()
	for k, f := range all {
		m.funcs = all[k+1:]
		if m.Below(4) == 0 {
			m.funcs = all
		}
		s += m.function(f, first, 5)
		first = ""
	}
	return s
}

func structs() string {
	s := ""
	for _, r := range []api.Type{recS, recT} {
		s += written(r) + "{ "
		for _, f := range fields() {
			if f.of == r {
				s += written(f.t) + f.name + "; "
			}
		}
		s += "}; "
	}
	return s
}

// variables are those at the top, the same in all programs.
func (m *maker) variables() string {
	s := ""
	for _, v := range []made{
		{"gc", char, 0}, {"gi", in, 0}, {"gl", long, 0}, {"ga", in, 4}, {"gb", char, 3}, {"gm", long, 2},
		{"gs", recS, 0}, {"gt", recT, 2}, {"gp", to(in, 1), 0}, {"gq", to(recS, 1), 0}, {"gr", to(in, 1), 2},
	} {
		s += written(v.t) + v.name
		if v.len > 0 {
			s += "[" + strconv.Itoa(v.len) + "]"
		}
		s += "; "
		m.vars = append(m.vars, v)
	}
	return s
}

// setup leads most of the pointers at the top to something.
func (m *maker) setup() string {
	s := ""
	for _, x := range []string{
		"gp = ga; ", "gq = &gs; ", "gs.n = &gs; ", "gs.p = &gi; ", "gs.t = gt; ", "gs.q = gr; ",
		"gt[0].s = &gs; ", "gt[0].b = gb; ", "gr[0] = ga; ", "gr[1] = &gi; ", "gt[1].s = (struct s *) malloc(sizeof(struct s)); ",
	} {
		if !m.rarely() {
			s += x
		}
	}
	return s
}

func (m *maker) head() madeFunc {
	f := madeFunc{name: m.fresh("f"), answer: pick(m, void, m.scalar(), m.scalar())}
	for range m.Below(4) {
		f.params = append(f.params, m.scalar())
	}
	return f
}
