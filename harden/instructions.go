package harden

import (
	"hauberk/api"
	"hauberk/ins"
)

// instruction hardens the one at a place of the old function.
func (m *maker) instruction(at int) {
	i := &m.old.Code[at]
	switch i.Op {
	case api.MConst:
		m.add(ins.Const(m.number(i.Dst), i.N))
	case api.MMove:
		m.move(m.all(i.Dst), m.all(i.A))
	case api.MOp:
		m.add(ins.Op(m.number(i.Dst), m.number(i.A), m.number(i.B), int(i.N)))
	case api.MNarrow:
		m.add(ins.Narrow(m.number(i.Dst), m.number(i.A), i.Size))
	case api.MCall:
		m.call(i)
	case api.MRet:
		m.answer(i)
	case api.MJump:
		m.lead(ins.Jump(i.To))
	case api.MIf:
		m.lead(ins.If(m.number(i.A), i.To))
	case api.MPut:
		m.add(ins.Put(m.number(i.A)))
	case api.MGet:
		m.add(ins.Get(m.number(i.Dst)))
	case api.MExit:
		m.add(ins.Exit(m.number(i.A)))
	default:
		m.ofPointers(at)
	}
}

func (m *maker) ofPointers(at int) {
	i := &m.old.Code[at]
	switch i.Op {
	case api.MNull:
		m.zero(m.all(i.Dst))
	case api.MTop:
		m.top(i)
	case api.MLocal:
		m.local(i)
	case api.MAdd:
		m.moved(i)
		m.stray(at, m.registers[i.Dst])
	case api.MPart:
		m.part(i)
	case api.MIs:
		m.is(i)
	case api.MLoad:
		m.load(i)
	case api.MStore:
		m.store(i)
	case api.MClear:
		m.add(ins.Clear(int(i.N)))
	case api.MMalloc:
		m.add(ins.Malloc(m.number(i.A), m.all(i.Dst)...))
	case api.MFree:
		m.add(ins.Free(m.all(i.A)...))
	}
}

// call asks for as much as is answered, also where nobody wants it; where nothing is answered, but wanted, that is 0, or to nothing.
func (m *maker) call(i *api.Ins) {
	var args []int
	for _, r := range i.Args {
		args = append(args, m.all(r)...)
	}
	kind := m.answers[i.Name]
	switch {
	case i.Dst == none:
		outs := m.row(kind)
		m.add(ins.Call(i.Name, args, outs[:width(kind)]))
	case kind == 0:
		m.add(ins.Call(i.Name, args, nil))
		m.zero(m.all(i.Dst))
	default:
		m.add(ins.Call(i.Name, args, m.all(i.Dst)))
	}
}

// answer answers 0, or to nothing, where this one answers nothing, but others of the function do.
func (m *maker) answer(i *api.Ins) {
	if i.A != none {
		m.add(ins.Ret(m.all(i.A)...))
		return
	}
	kind := m.answers[m.Name]
	r := m.row(kind)
	m.zero(r[:width(kind)])
	m.add(ins.Ret(r[:width(kind)]...))
}
