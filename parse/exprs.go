package parse

import (
	"hauberk/api"
	"hauberk/lex"
)

// strengths are those of the binary operators; 0 of what is none.
type strengths map[string]int

func allStrengths() strengths {
	return strengths{
		"||": 1, "&&": 2, "|": 3, "^": 4, "&": 5,
		"==": 6, "!=": 6, "<": 7, "<=": 7, ">": 7, ">=": 7,
		"<<": 8, ">>": 8, "+": 9, "-": 9, "*": 10, "/": 10, "%": 10,
	}
}

// expr reads an expression that is so deep. One that is too deep begins with a unary that is, too: that tells it.
func (r *reader) expr(deep int) api.Expr {
	left := r.binary(deep, 1)
	if !r.take("=") {
		return left
	}
	return api.Expr{Kind: api.EAssign, Kids: []api.Expr{left, r.expr(deep + 1)}, At: left.At}
}

// binary reads operators of at least a strength, and what they stand between, within an expression that is so deep.
func (r *reader) binary(deep, least int) api.Expr {
	left := r.unary(deep + 1)
	for {
		op := r.now().Text
		strength := r.strengths[op]
		if strength < least {
			return left
		}
		r.step()
		right := r.binary(deep, strength+1)
		left = api.Expr{Kind: api.EBinary, Op: op, Kids: []api.Expr{left, right}, At: left.At}
	}
}

// unary reads a unary that is so deep.
func (r *reader) unary(deep int) api.Expr {
	if deep > api.MaxDeep {
		r.fail(api.ErrDeep)
	}
	t := r.now()
	switch t.Text {
	case "-", "~", "!", "*", "&":
		r.step()
		return unaryOf(t.Text, r.unary(deep+1), t.At)
	case "sizeof":
		r.step()
		r.want("(")
		return api.Expr{Kind: api.ESize, Type: r.typeInside(), At: t.At}
	case "(":
		if _, ok := baseOf(r.ahead(1)); ok {
			r.step()
			return r.cast(t.At, deep)
		}
	}
	return r.post(deep)
}

func unaryOf(op string, x api.Expr, at int) api.Expr {
	return api.Expr{Kind: api.EUnary, Op: op, Kids: []api.Expr{x}, At: at}
}

// typeInside reads on behind the ( around a type.
func (r *reader) typeInside() api.Type {
	t := r.readType()
	r.want(")")
	return t
}

// cast reads on behind the ( of a cast, or of a malloc.
func (r *reader) cast(at, deep int) api.Expr {
	t := r.typeInside()
	if !r.take("malloc") {
		return api.Expr{Kind: api.ECast, Kids: []api.Expr{r.unary(deep + 1)}, Type: t, At: at}
	}
	r.want("(")
	return api.Expr{Kind: api.EMalloc, Kids: []api.Expr{r.inside(deep)}, Type: t, At: at}
}

// inside reads on behind the ( around an expression that stands in a unary that is so deep.
func (r *reader) inside(deep int) api.Expr {
	x := r.expr(deep + 1)
	r.want(")")
	return x
}

// post reads an atom, and the indices and fields of it, within a unary that is so deep.
func (r *reader) post(deep int) api.Expr {
	x := r.atom(deep)
	for {
		switch {
		case r.take("["):
			i := r.expr(deep + 1)
			r.want("]")
			x = api.Expr{Kind: api.EIndex, Kids: []api.Expr{x, i}, At: x.At}
		case r.take("."):
			x = r.fieldOf(x)
		case r.take("->"):
			x = r.fieldOf(unaryOf("*", x, x.At))
		default:
			return x
		}
	}
}

// fieldOf reads on behind a dot, or an arrow.
func (r *reader) fieldOf(x api.Expr) api.Expr {
	return api.Expr{Kind: api.EField, Name: r.one(api.TName), Kids: []api.Expr{x}, At: x.At}
}

func (r *reader) atom(deep int) api.Expr {
	t := r.now()
	switch {
	case t.Kind == api.TNum:
		r.step()
		n, _ := lex.Mean(t.Text)
		return api.Expr{Kind: api.ENum, Num: n, At: t.At}
	case t.Kind == api.TName:
		r.step()
		return r.use(t, deep)
	case r.take("("):
		return r.inside(deep)
	}
	r.fail(api.ErrSyntax)
	return api.Expr{}
}

// use reads on behind a name: of a variable, or of a function that is called.
func (r *reader) use(name api.Token, deep int) api.Expr {
	x := api.Expr{Kind: api.EName, Name: name.Text, At: name.At}
	if r.take("(") {
		x.Kind = api.ECall
		x.Kids = between(r, func() api.Expr { return r.expr(deep + 1) })
	}
	return x
}
