package harden

import (
	"hauberk/api"
	"hauberk/ins"
)

// The lock of variables, which is never released, and its key.
const (
	firstLock = 0
	firstKey  = 1
)

func (m *maker) top(i *api.Ins) {
	p := m.registers[i.Dst]
	m.add(ins.Top(p[value], i.Name))
	m.around(p, m.sizes[i.Name])
	m.add(ins.Const(p[key], firstKey), ins.Const(p[lock], firstLock))
}

func (m *maker) local(i *api.Ins) {
	p := m.registers[i.Dst]
	m.add(ins.Slot(p[value], int(i.N)))
	m.around(p, m.Slots[i.N])
	m.add(ins.Key(p[key]), ins.Lock(p[lock]))
}

// around lets a pointer point to so many bytes from its value on.
func (m *maker) around(p five, size int) {
	m.add(ins.Move(p[base], p[value]), ins.Op(p[bound], p[value], m.constant(uint64(size)), api.ADD))
}

// moved may move a pointer to nothing, too: it is one still, by its key.
func (m *maker) moved(i *api.Ins) {
	m.add(ins.Op(m.number(i.Dst), m.number(i.A), m.number(i.B), api.ADD))
	m.move(m.rest(i.Dst), m.rest(i.A))
}

// part has the greater one of two bases, and the lesser one of two bounds, in the order of offsets (chapter 8). All blocks stand at small addresses, so that the order of addresses is the same, but for a part around the address 0: its beginning is the greater number, and yet it begins ahead of the base. Where nothing is left the base isn't below the bound, and so it is in all parts of that.
func (m *maker) part(i *api.Ins) {
	p, q := m.registers[i.Dst], m.registers[i.A]
	from := m.operate(api.ADD, q[value], m.constant(i.N))
	to := m.operate(api.ADD, from, m.constant(uint64(i.Size)))
	behind := m.operate(api.SLTU, q[base], from)
	around := m.operate(api.SLTU, to, from)
	m.choose(p[base], q[base], from, m.operate(api.SLTU, around, behind))
	m.choose(p[bound], q[bound], to, m.operate(api.SLTU, to, q[bound]))
	m.add(ins.Move(p[value], from))
	m.move(m.all(i.Dst)[key:], m.all(i.A)[key:])
}

// is asks for the key: a pointer to nothing has none, wherever it was moved; others keep theirs, be what they point to gone.
func (m *maker) is(i *api.Ins) {
	m.add(ins.Op(m.number(i.Dst), m.registers[i.A][key], m.constant(1), api.SLTU))
}
