package lower

import (
	"hauberk/api"
	"hauberk/lay"
)

// placed is what stands somewhere; but an array is the pointer to it.
func (m *maker) placed(x *api.Expr) int {
	p := m.place(x)
	if x.Kind == api.EName && x.Num != 0 {
		return p
	}
	return m.made(kindOf(x.Type), api.Ins{Op: api.MLoad, A: p, Size: m.size(x.Type)})
}

// place is the pointer to where something is, without a load there. It needs no part for an &: a field's is one already, and a variable is all of its block.
func (m *maker) place(x *api.Expr) int {
	switch x.Kind {
	case api.EName:
		return m.variable(x.Name)
	case api.EUnary:
		return m.value(&x.Kids[0])
	case api.EIndex:
		return m.moved(x.Kids, 1)
	}
	return m.field(x)
}

func (m *maker) variable(name string) int {
	if k, ok := m.slots[name]; ok {
		return m.pointer(api.Ins{Op: api.MLocal, N: k})
	}
	return m.pointer(api.Ins{Op: api.MTop, Name: name})
}

// moved is a pointer so many of what it points to on, or back, by the sign.
func (m *maker) moved(kids []api.Expr, sign int) int {
	p, i := m.value(&kids[0]), m.value(&kids[1])
	t := kids[0].Type
	t.Stars--
	by := m.operate(api.MUL, i, m.constant(uint64(sign*m.size(t))))
	return m.pointer(api.Ins{Op: api.MAdd, A: p, B: by})
}

func (m *maker) field(x *api.Expr) int {
	record := &x.Kids[0]
	t, off, _ := lay.Field(m.Structs, record.Type.Struct, x.Name)
	return m.pointer(api.Ins{Op: api.MPart, A: m.place(record), N: uint64(off), Size: m.size(t)})
}

func (m *maker) store(p, r int, t api.Type) {
	m.add(api.Ins{Op: api.MStore, A: p, B: r, Size: m.size(t)})
}
