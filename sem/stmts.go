package sem

import (
	"hauberk/api"
	"hauberk/heap"
)

func (m *maker) stmts(l []api.Stmt) {
	for i := range l {
		m.stmt(&l[i])
	}
}

// stmt makes a statement's deeds, which leave as many values as there were ahead of them.
func (m *maker) stmt(s *api.Stmt) {
	m.begin()
	switch s.Kind {
	case api.SBlock:
		m.stmts(s.Kids)
	case api.SIf:
		m.branch(s)
	case api.SWhile:
		m.loop(s)
	case api.SReturn:
		m.answer(s.Exprs)
	case api.SBreak:
		m.jump(m.out)
	case api.SContinue:
		m.jump(m.again)
	case api.SExpr:
		m.values(s.Exprs)
		for range s.Exprs {
			m.add(func(f *frame) { f.pop() })
		}
	case api.SLocal:
		m.declare(s)
	}
}

func (m *maker) branch(s *api.Stmt) {
	otherwise, end := &label{}, &label{}
	m.value(&s.Exprs[0])
	m.jumpIf(false, otherwise)
	m.stmt(&s.Kids[0])
	m.jump(end)
	m.put(otherwise)
	m.stmts(s.Kids[1:])
	m.put(end)
}

// loop takes fuel for each time that its condition is gone through, but the first.
func (m *maker) loop(s *api.Stmt) {
	around, beyond := m.again, m.out
	first, again, out := &label{}, &label{}, &label{}
	m.put(first)
	m.value(&s.Exprs[0])
	m.jumpIf(false, out)
	m.again, m.out = again, out
	m.stmts(s.Kids)
	m.again, m.out = around, beyond
	m.put(again)
	m.begin()
	m.jump(first)
	m.put(out)
}

// answer ends the call, by 0, or to nothing, where nothing is said.
func (m *maker) answer(l []api.Expr) {
	if len(l) == 0 {
		m.constant(heap.Value{})
	}
	m.values(l)
	m.add((*frame).leave)
}

// declare clears a local's block each time that it is come to, behind what its expression has done.
func (m *maker) declare(s *api.Stmt) {
	k := m.local(s.Var)
	m.values(s.Exprs)
	m.add(func(f *frame) { f.Clear(f.blocks[k].Block) })
	if len(s.Exprs) > 0 {
		size := m.sizes[k]
		m.add(func(f *frame) { f.store(f.blocks[k], size, f.pop()) })
	}
}
