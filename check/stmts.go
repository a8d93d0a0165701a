package check

import "hauberk/api"

// stmt is a statement that was checked: what stands in it first, then itself; but a local whose name its block has is told ahead of that.
func (c *checker) stmt(s api.Stmt) api.Stmt {
	if s.Kind == api.SLocal && c.has(s.Var.Name) {
		c.fail(s.At, api.ErrName)
	}
	s.Exprs = each(s.Exprs, c.expr)
	s.Kids = c.within(s)
	c.stmtItself(&s)
	return s
}

// within goes through the statements in one: those of an SBlock stand in one block, each other in a block of its own.
func (c *checker) within(s api.Stmt) []api.Stmt {
	switch s.Kind {
	case api.SBlock:
		return c.block(s.Kids)
	case api.SWhile:
		c.loops++
		defer func() { c.loops-- }()
	}
	var made []api.Stmt
	for _, k := range s.Kids {
		made = append(made, c.block([]api.Stmt{k})...)
	}
	return made
}

func (c *checker) block(l []api.Stmt) []api.Stmt {
	c.enter()
	defer c.leave()
	return each(l, c.stmt)
}

// stmtItself is asked when all that stands in it was checked.
func (c *checker) stmtItself(s *api.Stmt) {
	switch s.Kind {
	case api.SIf, api.SWhile:
		for _, x := range s.Exprs {
			if !isValue(x.Type) {
				c.fail(x.At, api.ErrType)
			}
		}
	case api.SExpr:
		for _, x := range s.Exprs {
			if !isValue(x.Type) && x.Type != plain(api.Void) {
				c.fail(s.At, api.ErrType)
			}
		}
	case api.SReturn:
		c.returning(s)
	case api.SBreak, api.SContinue:
		if c.loops == 0 {
			c.fail(s.At, api.ErrType)
		}
	case api.SLocal:
		c.declare(s)
	}
}

func (c *checker) returning(s *api.Stmt) {
	var asked []api.Type
	if c.answer != plain(api.Void) {
		asked = append(asked, c.answer)
	}
	if e := fit(s.Exprs, asked...); e != api.OK {
		c.fail(s.At, e)
	}
}

// declare makes a local known, which it isn't within its own Exprs.
func (c *checker) declare(s *api.Stmt) {
	t := s.Var.Type
	switch {
	case !c.hasSize(t):
		c.fail(s.At, api.ErrType)
	case len(s.Exprs) == 0:
	case s.Var.Len != 0 || fit(s.Exprs, t) != api.OK:
		c.fail(s.At, api.ErrType)
	}
	s.Var = c.local(s.Var)
}
