package lower

import "hauberk/api"

func (m *maker) stmts(l []api.Stmt) {
	for i := range l {
		m.stmt(&l[i])
	}
}

func (m *maker) stmt(s *api.Stmt) {
	switch s.Kind {
	case api.SBlock:
		m.stmts(s.Kids)
	case api.SIf:
		m.branch(s)
	case api.SWhile:
		m.loop(s)
	case api.SReturn:
		m.answer(s.Exprs)
	case api.SBreak:
		m.jump(m.out)
	case api.SContinue:
		m.jump(m.again)
	case api.SExpr:
		m.values(s.Exprs)
	case api.SLocal:
		m.declare(s)
	}
}

func (m *maker) branch(s *api.Stmt) {
	otherwise, end := &label{}, &label{}
	m.leadIf(&s.Exprs[0], false, otherwise)
	m.stmt(&s.Kids[0])
	if len(s.Kids) > 1 {
		m.jump(end)
	}
	m.put(otherwise)
	m.stmts(s.Kids[1:])
	m.put(end)
}

func (m *maker) loop(s *api.Stmt) {
	around, beyond := m.again, m.out
	m.again, m.out = &label{}, &label{}
	m.put(m.again)
	m.leadIf(&s.Exprs[0], false, m.out)
	m.stmts(s.Kids)
	m.jump(m.again)
	m.put(m.out)
	m.again, m.out = around, beyond
}

func (m *maker) answer(l []api.Expr) {
	r := none
	if len(l) > 0 {
		r = m.value(&l[0])
	}
	m.add(api.Ins{Op: api.MRet, A: r})
}

// end answers 0, or to nothing, where the text says nothing. It is there also where it is never come to: labels may stand behind the last statement.
func (m *maker) end(t api.Type) {
	switch {
	case isPointer(t):
		m.add(api.Ins{Op: api.MRet, A: m.nothing()})
	case t.Base == api.Void:
		m.answer(nil)
	default:
		m.add(api.Ins{Op: api.MRet, A: m.constant(0)})
	}
}

// declare clears a local each time that it is come to, behind what its expression has done.
func (m *maker) declare(s *api.Stmt) {
	slot := m.slot(s.Var)
	made := m.values(s.Exprs)
	m.add(api.Ins{Op: api.MClear, N: slot})
	for _, r := range made {
		m.store(m.variable(s.Var.Name), r, s.Var.Type)
	}
}
