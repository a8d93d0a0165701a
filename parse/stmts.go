package parse

import "hauberk/api"

// block reads one whose statements are one deeper than deep.
func (r *reader) block(deep int) api.Stmt {
	s := api.Stmt{Kind: api.SBlock, At: r.now().At}
	r.want("{")
	s.Kids = until(r, "}", func() api.Stmt { return r.stmt(deep + 1) })
	return s
}

// stmt reads a statement that is so deep.
func (r *reader) stmt(deep int) api.Stmt {
	if deep > api.MaxDeep {
		r.fail(api.ErrDeep)
	}
	at := r.now().At
	if _, ok := baseOf(r.now()); ok {
		return r.local(deep)
	}
	switch {
	case r.is("{"):
		return r.block(deep)
	case r.take("if"):
		return r.choice(at, deep)
	case r.take("while"):
		return api.Stmt{Kind: api.SWhile, Exprs: r.condition(deep), Kids: []api.Stmt{r.stmt(deep + 1)}, At: at}
	case r.take("return"):
		return api.Stmt{Kind: api.SReturn, Exprs: r.maybe(deep), At: at}
	case r.take("break"):
		r.want(";")
		return api.Stmt{Kind: api.SBreak, At: at}
	case r.take("continue"):
		r.want(";")
		return api.Stmt{Kind: api.SContinue, At: at}
	}
	return api.Stmt{Kind: api.SExpr, Exprs: r.maybe(deep), At: at}
}

// choice reads on behind an if.
func (r *reader) choice(at, deep int) api.Stmt {
	s := api.Stmt{Kind: api.SIf, Exprs: r.condition(deep), At: at}
	s.Kids = []api.Stmt{r.stmt(deep + 1)}
	if r.take("else") {
		s.Kids = append(s.Kids, r.stmt(deep+1))
	}
	return s
}

// condition reads that of a statement that is so deep.
func (r *reader) condition(deep int) []api.Expr {
	r.want("(")
	x := r.expr(deep + 1)
	r.want(")")
	return []api.Expr{x}
}

// maybe reads the expression of a statement that is so deep, if it has one, and its end.
func (r *reader) maybe(deep int) []api.Expr {
	if r.take(";") {
		return nil
	}
	x := r.expr(deep + 1)
	r.want(";")
	return []api.Expr{x}
}

func (r *reader) local(deep int) api.Stmt {
	v := r.named()
	v.Len = r.length()
	s := api.Stmt{Kind: api.SLocal, Var: v, At: v.At}
	if r.take("=") {
		s.Exprs = []api.Expr{r.expr(deep + 1)}
	}
	r.want(";")
	return s
}
