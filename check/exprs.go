package check

import (
	"hauberk/api"
	"hauberk/lay"
)

// expr is an expression that was checked: its Kids first, then itself.
func (c *checker) expr(x api.Expr) api.Expr {
	x.Kids = each(x.Kids, c.expr)
	e := c.itself(&x)
	if e == api.OK && !lay.Known(c.structs, x.Type) {
		e = api.ErrType
	}
	if e != api.OK {
		c.fail(x.At, e)
	}
	return x
}

// itself tells an expression's Type, and makes of its Kids, which were checked, what is asked for.
func (c *checker) itself(x *api.Expr) api.Errno {
	switch x.Kind {
	case api.ENum, api.EName, api.ESize:
		return c.atom(x)
	case api.EUnary, api.EField, api.ECast, api.EMalloc:
		if len(x.Kids) == 1 {
			return c.ofOne(x, x.Kids[0])
		}
	case api.EBinary, api.EAssign, api.EIndex:
		if len(x.Kids) == 2 {
			return c.ofTwo(x, x.Kids[0], x.Kids[1])
		}
	case api.ECall:
		return c.call(x)
	}
	return api.ErrType
}

// become gives an expression its Type, and has its Kids be what is asked for.
func become(x *api.Expr, t api.Type, asked ...api.Type) api.Errno {
	x.Type = t
	return fit(x.Kids, asked...)
}

func (c *checker) atom(x *api.Expr) api.Errno {
	switch x.Kind {
	case api.EName:
		return c.use(x)
	case api.ESize:
		size, e := lay.Size(c.structs, x.Type)
		x.Num = uint64(size)
		x.Type = plain(api.Long)
		return e
	}
	x.Type = plain(api.Int)
	if x.Num >= 1<<31 {
		x.Type = plain(api.Long)
	}
	return api.OK
}

// use is that of a variable's name.
func (c *checker) use(x *api.Expr) api.Errno {
	m, ok := c.find(x.Name)
	if !ok || m.kind != aVariable {
		return api.ErrName
	}
	x.Name, x.Type = m.name, m.answer
	if m.length != 0 {
		x.Type = pointerTo(m.answer)
		x.Num = 1
	}
	return api.OK
}

func (c *checker) call(x *api.Expr) api.Errno {
	m, ok := c.find(x.Name)
	switch {
	case !ok || m.kind == aVariable:
		return api.ErrName
	case m.kind == freeing:
		return free(x)
	}
	return become(x, m.answer, m.params...)
}

// free asks for the very type that it is given, if that may be freed: a nought has none of these.
func free(x *api.Expr) api.Errno {
	if len(x.Kids) != 1 {
		return api.ErrType
	}
	t := x.Kids[0].Type
	if !isPointer(t) || t == pointerTo(plain(api.Void)) {
		return api.ErrType
	}
	return become(x, plain(api.Void), t)
}

// ofOne is itself of an expression of one kid.
func (c *checker) ofOne(x *api.Expr, k api.Expr) api.Errno {
	switch x.Kind {
	case api.EUnary:
		return c.unary(x, k)
	case api.EField:
		return c.field(x, k)
	case api.ECast:
		if isNumber(x.Type) && isNumber(k.Type) {
			return api.OK
		}
	case api.EMalloc:
		if _, ok := c.pointed(x.Type); ok {
			return become(x, x.Type, plain(api.Long))
		}
	}
	return api.ErrType
}

func (c *checker) unary(x *api.Expr, k api.Expr) api.Errno {
	switch x.Op {
	case "-", "~":
		t := wide(k.Type)
		return become(x, t, t)
	case "!":
		return become(x, plain(api.Int), k.Type)
	case "*":
		if t, ok := c.pointed(k.Type); ok {
			return become(x, t, k.Type)
		}
	case "&":
		if isLvalue(k) {
			x.Type = pointerTo(k.Type)
			return api.OK
		}
	}
	return api.ErrType
}

func (c *checker) field(x *api.Expr, k api.Expr) api.Errno {
	if !isStruct(k.Type) {
		return api.ErrType
	}
	t, _, e := lay.Field(c.structs, k.Type.Struct, x.Name)
	x.Type = t
	return e
}

// ofTwo is itself of an expression of two kids.
func (c *checker) ofTwo(x *api.Expr, l, r api.Expr) api.Errno {
	switch x.Kind {
	case api.EBinary:
		return c.binary(x, l, r)
	case api.EAssign:
		if isLvalue(l) {
			return become(x, l.Type, l.Type, l.Type)
		}
	case api.EIndex:
		if t, ok := c.pointed(l.Type); ok {
			return become(x, t, l.Type, plain(api.Long))
		}
	}
	return api.ErrType
}

func (c *checker) binary(x *api.Expr, l, r api.Expr) api.Errno {
	t := wide(l.Type, r.Type)
	switch x.Op {
	case "+", "-":
		if _, ok := c.pointed(l.Type); ok {
			return become(x, l.Type, l.Type, plain(api.Long))
		}
		return become(x, t, t, t)
	case "*", "/", "%", "&", "^", "|":
		return become(x, t, t, t)
	case "<<", ">>":
		return become(x, wide(l.Type), wide(l.Type), plain(api.Long))
	case "<", "<=", ">", ">=":
		return become(x, plain(api.Int), t, t)
	case "==", "!=":
		return equal(x, l, r)
	case "&&", "||":
		return become(x, plain(api.Int), l.Type, r.Type)
	}
	return api.ErrType
}

// equal asks for the pointer's type where one is held against a nought.
func equal(x *api.Expr, l, r api.Expr) api.Errno {
	t := wide(l.Type, r.Type)
	switch {
	case isPointer(l.Type) && isNought(r):
		t = l.Type
	case isNought(l) && isPointer(r.Type):
		t = r.Type
	}
	return become(x, plain(api.Int), t, t)
}
