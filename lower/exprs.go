package lower

import "hauberk/api"

// values are the registers of what expressions come to, in order.
func (m *maker) values(l []api.Expr) []int {
	var registers []int
	for i := range l {
		registers = append(registers, m.value(&l[i]))
	}
	return registers
}

// value is the register of what an expression comes to; none, of a call that answers nothing.
func (m *maker) value(x *api.Expr) int {
	switch x.Kind {
	case api.ENum, api.ESize:
		return m.literal(x)
	case api.EUnary:
		return m.unary(x)
	case api.EBinary:
		return m.binary(x)
	case api.EAssign:
		return m.assign(x)
	case api.ECast:
		return m.cast(x)
	case api.EMalloc:
		return m.pointer(api.Ins{Op: api.MMalloc, A: m.value(&x.Kids[0])})
	case api.ECall:
		return m.call(x)
	}
	return m.placed(x)
}

// literal is a pointer to nothing, if it is a nought that stands for one.
func (m *maker) literal(x *api.Expr) int {
	if isPointer(x.Type) {
		return m.nothing()
	}
	return m.constant(x.Num)
}

func (m *maker) nothing() int { return m.pointer(api.Ins{Op: api.MNull}) }

// cast needs no instruction where a number becomes wider: its bits are all told by its sign.
func (m *maker) cast(x *api.Expr) int {
	kid := &x.Kids[0]
	r, size := m.value(kid), m.size(x.Type)
	if size >= m.size(kid.Type) {
		return r
	}
	return m.number(api.Ins{Op: api.MNarrow, A: r, Size: size})
}

func (m *maker) assign(x *api.Expr) int {
	p, r := m.place(&x.Kids[0]), m.value(&x.Kids[1])
	m.store(p, r, x.Type)
	return r
}

// call does the functions that are known from the beginning by instructions of their own.
func (m *maker) call(x *api.Expr) int {
	args := m.values(x.Kids)
	switch x.Name {
	case "putchar":
		m.add(api.Ins{Op: api.MPut, A: args[0]})
		return none
	case "getchar":
		return m.number(api.Ins{Op: api.MGet})
	case "exit":
		m.add(api.Ins{Op: api.MExit, A: args[0]})
		return none
	case "free":
		m.add(api.Ins{Op: api.MFree, A: args[0]})
		return none
	}
	i := api.Ins{Op: api.MCall, Dst: none, Name: x.Name, Args: args}
	if x.Type == (api.Type{Base: api.Void}) {
		m.add(i)
		return none
	}
	return m.made(kindOf(x.Type), i)
}
