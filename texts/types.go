package texts

import (
	"strings"

	"hauberk/api"
)

var (
	void = api.Type{Base: api.Void}
	char = api.Type{Base: api.Char}
	in   = api.Type{Base: api.Int}
	long = api.Type{Base: api.Long}
	recS = api.Type{Base: api.Record, Struct: "s"}
	recT = api.Type{Base: api.Record, Struct: "t"}
)

func to(t api.Type, stars int) api.Type {
	t.Stars += stars
	return t
}

// field is one of the structs that all random programs have.
type field struct {
	of   api.Type
	name string
	t    api.Type
}

func fields() []field {
	return []field{
		{recS, "c", char}, {recS, "i", in}, {recS, "l", long}, {recS, "p", to(in, 1)}, {recS, "n", to(recS, 1)}, {recS, "t", to(recT, 1)}, {recS, "q", to(in, 2)},
		{recT, "d", char}, {recT, "m", long}, {recT, "e", in}, {recT, "s", to(recS, 1)}, {recT, "b", to(char, 1)},
	}
}

func written(t api.Type) string {
	return []string{"void", "char", "int", "long", "struct " + t.Struct}[t.Base] + " " + strings.Repeat("*", t.Stars)
}

func (m *maker) number() api.Type { return pick(m, char, in, in, long) }

func (m *maker) pointer() api.Type {
	return pick(m, to(in, 1), to(in, 1), to(in, 1), to(char, 1), to(long, 1), to(recS, 1), to(recS, 1), to(recT, 1), to(in, 2), to(recS, 2))
}

func (m *maker) scalar() api.Type {
	if m.Below(5) < 2 {
		return m.pointer()
	}
	return m.number()
}
