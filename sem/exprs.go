package sem

import (
	"hauberk/api"
	"hauberk/heap"
	"hauberk/lay"
	"hauberk/num"
)

// values are those of expressions, in order.
func (m *maker) values(l []api.Expr) {
	for i := range l {
		m.value(&l[i])
	}
}

// value makes the deeds that put what an expression comes to upon the values. (A nought's is a pointer to nothing, too.)
func (m *maker) value(x *api.Expr) {
	if isPlace(x) {
		m.placed(x)
		return
	}
	m.begin()
	switch x.Kind {
	case api.ENum, api.ESize:
		m.constant(heap.Value{Num: x.Num})
	case api.EUnary:
		m.unary(x.Op, &x.Kids[0], x.Type)
	case api.EBinary:
		m.binary(x)
	case api.EAssign:
		m.assign(x)
	case api.ECast:
		m.values(x.Kids)
		m.narrow(x.Type)
	case api.EMalloc:
		m.values(x.Kids)
		m.add((*frame).malloc)
	case api.ECall:
		m.call(x)
	}
}

// isPlace tells whether an expression is what stands somewhere.
func isPlace(x *api.Expr) bool {
	switch x.Kind {
	case api.EName, api.EIndex, api.EField:
		return true
	}
	return x.Kind == api.EUnary && x.Op == "*"
}

// placed is what stands somewhere; but an array is the pointer to it.
func (m *maker) placed(x *api.Expr) {
	m.place(x)
	if x.Kind == api.EName && x.Num != 0 {
		return
	}
	size := m.size(x.Type)
	m.add(func(f *frame) { f.push(f.load(f.pop().Ptr, size)) })
	m.as(x.Type)
}

// as makes a value of a type of what was loaded, which may have been stored by another one: a pointer to structs that was moved so far that it wrapped round may be to the middle of one.
func (m *maker) as(t api.Type) {
	if t.Stars == 0 {
		m.narrow(t)
		return
	}
	m.one(func(v heap.Value) heap.Value { return heap.Value{Ptr: v.Ptr} })
}

// place makes the deeds that put the pointer to where something is upon the values, without a load there.
func (m *maker) place(x *api.Expr) {
	m.begin()
	switch x.Kind {
	case api.EName:
		m.variable(x.Name)
	case api.EUnary:
		m.value(&x.Kids[0])
	case api.EIndex:
		m.values(x.Kids)
		m.move(x.Kids[0].Type, 1)
	case api.EField:
		m.place(&x.Kids[0])
		m.part(x.Kids[0].Type.Struct, x.Name)
	}
}

// variable is the pointer to its block, whole.
func (m *maker) variable(name string) {
	if k, ok := m.locals[name]; ok {
		m.add(func(f *frame) { f.push(heap.Value{Ptr: f.blocks[k]}) })
		return
	}
	m.constant(heap.Value{Ptr: m.tops[name]})
}

// part makes a pointer to a struct one to a field alone.
func (m *maker) part(record, field string) {
	t, off, _ := lay.Field(m.structs, record, field)
	size := m.size(t)
	m.one(func(v heap.Value) heap.Value { return heap.Value{Ptr: heap.Part(v.Ptr, off, size)} })
}

// move makes one pointer of a pointer and a number: so many of what it points to on, or back, by the sign.
func (m *maker) move(t api.Type, sign int) {
	by := num.Of(sign * m.pointed(t))
	m.two(func(p, i heap.Value) heap.Value {
		n, _ := num.Do(api.MUL, i.Num, by)
		return heap.Value{Ptr: heap.Move(p.Ptr, num.Signed(n))}
	})
}

// narrow makes a number one of a type.
func (m *maker) narrow(t api.Type) {
	bits := 8 * m.size(t)
	m.one(func(v heap.Value) heap.Value {
		n, _ := num.Narrow(v.Num, bits, true)
		return heap.Value{Num: n}
	})
}

// assign leaves what it has stored upon the values.
func (m *maker) assign(x *api.Expr) {
	m.place(&x.Kids[0])
	m.value(&x.Kids[1])
	size := m.size(x.Type)
	m.add(func(f *frame) {
		v := f.pop()
		f.store(f.pop().Ptr, size, v)
		f.push(v)
	})
}

func (m *maker) call(x *api.Expr) {
	m.values(x.Kids)
	if do, ok := m.known[x.Name]; ok {
		m.add(do)
		return
	}
	r := m.routines[x.Name]
	m.add(func(f *frame) { f.call(r) })
}
