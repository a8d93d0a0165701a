package check

import (
	"slices"

	"hauberk/api"
	"hauberk/lay"
)

// checker goes through a program, in the order in which its errors are looked for.
type checker struct {
	names
	structs []api.Struct
	answer  api.Type // what the function answers that is gone through
	loops   int      // how many SWhiles are around the statement that is gone through
	at      int
	wrong   api.Errno
}

// fail tells what is wrong, and where: only the first counts, so that all else may be gone through to its end.
func (c *checker) fail(at int, e api.Errno) {
	if c.wrong == api.OK {
		c.at, c.wrong = at, e
	}
}

// program goes through one whose structs are right.
func (c *checker) program(p api.Program) api.Program {
	for _, v := range p.Vars {
		c.variable(v)
	}
	for _, f := range p.Funcs {
		c.head(f)
	}
	q := api.Program{Structs: each(p.Structs, copied), Vars: slices.Clone(p.Vars), Funcs: each(p.Funcs, c.function)}
	if m, _ := c.find("main"); m.kind != aFunction {
		c.fail(0, api.ErrMain)
	}
	return q
}

// each is a new list, of what the parts of a list become, in order.
func each[T any](l []T, become func(T) T) []T {
	var made []T
	for _, x := range l {
		made = append(made, become(x))
	}
	return made
}

func copied(s api.Struct) api.Struct {
	s.Fields = slices.Clone(s.Fields)
	return s
}

// variable makes one at the top known.
func (c *checker) variable(v api.Var) {
	if c.has(v.Name) {
		c.fail(v.At, api.ErrName)
	}
	if !c.hasSize(v.Type) {
		c.fail(v.At, api.ErrType)
	}
	c.know(v.Name, meaning{kind: aVariable, answer: v.Type, length: v.Len, name: v.Name})
}

// head makes a function known, of which the body is gone through later.
func (c *checker) head(f api.Func) {
	if c.has(f.Name) {
		c.fail(f.At, api.ErrName)
	}
	if f.Type != plain(api.Void) && !c.mayBeValue(f.Type) {
		c.fail(f.At, api.ErrType)
	}
	m := meaning{kind: aFunction, answer: f.Type}
	for i, v := range f.Params {
		if !c.mayBeValue(v.Type) {
			c.fail(v.At, api.ErrType)
		}
		if slices.ContainsFunc(f.Params[:i], func(ahead api.Var) bool { return ahead.Name == v.Name }) {
			c.fail(v.At, api.ErrName)
		}
		m.params = append(m.params, v.Type)
	}
	if f.Name == "main" && (len(f.Params) > 0 || f.Type != plain(api.Int)) {
		c.fail(f.At, api.ErrMain)
	}
	c.know(f.Name, m)
}

// function goes through the body of one: the params stand in the block of its statements.
func (c *checker) function(f api.Func) api.Func {
	c.answer = f.Type
	c.enter()
	c.locals = 0
	f.Params = each(f.Params, c.local)
	f.Body.Exprs = each(f.Body.Exprs, c.expr)
	f.Body.Kids = each(f.Body.Kids, c.stmt)
	c.leave()
	return f
}

// hasSize tells whether something may be of a type.
func (c *checker) hasSize(t api.Type) bool {
	_, e := lay.Size(c.structs, t)
	return e == api.OK
}

// mayBeValue tells whether it is the type of a number, or of a pointer that is known.
func (c *checker) mayBeValue(t api.Type) bool { return isValue(t) && lay.Known(c.structs, t) }
