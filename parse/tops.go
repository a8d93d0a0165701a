package parse

import (
	"hauberk/api"
	"hauberk/lex"
)

const mostStars = 4

func (r *reader) program() api.Program {
	p := api.Program{}
	for r.now().Kind != api.TEnd {
		r.top(&p)
	}
	return p
}

func (r *reader) top(p *api.Program) {
	if r.is("struct") && r.ahead(2).Text == "{" {
		p.Structs = append(p.Structs, r.structure())
		return
	}
	v := r.named()
	if r.take("(") {
		p.Funcs = append(p.Funcs, r.function(v))
		return
	}
	v.Len = r.length()
	r.want(";")
	p.Vars = append(p.Vars, v)
}

func (r *reader) structure() api.Struct {
	r.want("struct")
	s := api.Struct{At: r.now().At}
	s.Name = r.one(api.TName)
	r.want("{")
	s.Fields = until(r, "}", r.field)
	r.want(";")
	return s
}

func (r *reader) field() api.Field {
	v := r.named()
	r.want(";")
	return api.Field{Name: v.Name, Type: v.Type, At: v.At}
}

// function reads on behind the ( of a function, of which the type and the name are told.
func (r *reader) function(v api.Var) api.Func {
	params := between(r, r.named)
	return api.Func{Name: v.Name, Type: v.Type, Params: params, Body: r.block(0), At: v.At}
}

// named reads a type and a name, with which all begins that has a type.
func (r *reader) named() api.Var {
	v := api.Var{At: r.now().At}
	v.Type = r.readType()
	v.Name = r.one(api.TName)
	return v
}

func (r *reader) readType() api.Type {
	base, ok := baseOf(r.now())
	if !ok {
		r.fail(api.ErrSyntax)
		return api.Type{}
	}
	r.step()
	t := api.Type{Base: base}
	if base == api.Record {
		t.Struct = r.one(api.TName)
	}
	for r.is("*") {
		if t.Stars == mostStars {
			r.fail(api.ErrRange)
			return api.Type{}
		}
		t.Stars++
		r.step()
	}
	return t
}

// baseOf is the innermost of the type that a token begins; false, if it begins none.
func baseOf(t api.Token) (int, bool) {
	switch t.Text {
	case "void":
		return api.Void, true
	case "char":
		return api.Char, true
	case "int":
		return api.Int, true
	case "long":
		return api.Long, true
	case "struct":
		return api.Record, true
	}
	return 0, false
}

// length reads the number of elements, and what is around it; 0, if it isn't there.
func (r *reader) length() int {
	if !r.take("[") {
		return 0
	}
	n, e := lex.Mean(r.now().Text)
	if e == api.OK && (n < 1 || n > api.MaxArray) {
		r.fail(api.ErrRange)
	}
	r.one(api.TNum)
	r.want("]")
	return int(n)
}
