package samples

import (
	"hauberk/api"
	"hauberk/blocks"
	"hauberk/chance"
)

// somewhere leads a pointer to a block.
func (m *blockMaker) somewhere(r int) []api.Ins {
	switch m.Below(4) {
	case 0:
		if len(m.f.Slots) > 0 {
			return []api.Ins{blocks.Local(r, m.Below(len(m.f.Slots)))}
		}
	case 1:
		size := m.register(aNumber)
		return []api.Ins{blocks.Const(size, 8+m.number()%32), blocks.Malloc(r, size)}
	}
	return []api.Ins{blocks.Top(r, chance.Pick(&m.Source, m.unit.Tops...).Name)}
}

// instructions are one, or a few that belong together.
func (m *blockMaker) instructions(length int) []api.Ins {
	x, y, z, q := m.register(aNumber), m.register(aNumber), m.register(aNumber), m.register(aPointer)
	switch m.Below(20) {
	case 0:
		return []api.Ins{blocks.Const(x, m.number())}
	case 1:
		return []api.Ins{blocks.Move(x, y), blocks.Move(m.register(aPointer), q)}
	case 2:
		return []api.Ins{blocks.Op(x, y, z, 1+m.Below(27))}
	case 3:
		return []api.Ins{blocks.Narrow(x, y, m.pick(1, 4, 8)), blocks.Put(x)}
	case 4:
		return []api.Ins{blocks.Is(x, q), blocks.Put(x)}
	case 5:
		return []api.Ins{blocks.Const(x, m.even(m.number())), blocks.Add(m.register(aPointer), q, x)}
	case 6:
		off := m.even(uint64(m.pick(0, 0, 1, 4, 8, m.Below(1<<22))))
		return []api.Ins{blocks.Part(m.register(aPointer), q, int(off), 1+m.pick(0, 3, 7, 7, 15, m.Below(1<<22)))}
	case 7:
		return []api.Ins{m.choose(blocks.Jump(m.forth(length)), blocks.If(x, m.forth(length)), blocks.If(x, m.forth(length)))}
	case 8:
		return []api.Ins{blocks.Get(x), blocks.Put(x)}
	case 9, 10:
		return []api.Ins{m.calling(), blocks.Put(x)}
	case 11:
		return m.leaving(q)
	case 12:
		return m.somewhere(q)
	case 13, 14:
		return m.passing(q)
	case 15:
		return m.emptying()
	}
	return append(m.somewhere(q), m.passing(q)...)
}

// passing is a store or a load, or both, of what may be known.
func (m *blockMaker) passing(q int) []api.Ins {
	r, width := m.Below(len(m.f.Kinds)), 8
	if m.f.Kinds[r] == aNumber {
		width = m.pick(m.widths...)
	}
	l := []api.Ins{blocks.Store(q, r, width), blocks.Load(r, q, width)}
	k := m.Below(2)
	return l[k : k+1+m.Below(2-k)]
}

// leaving is what ends something: the call, the run, or a block.
func (m *blockMaker) leaving(q int) []api.Ins {
	switch m.Below(12) {
	case 0:
		return []api.Ins{m.back()}
	case 1:
		return []api.Ins{blocks.Exit(m.register(aNumber))}
	case 2:
		return []api.Ins{blocks.Malloc(q, m.register(aNumber))}
	case 3:
		return []api.Ins{blocks.Null(q)}
	case 4:
		return []api.Ins{blocks.Free(q)}
	}
	x := m.register(aNumber)
	l := []api.Ins{blocks.Const(x, 8+m.number()%32), blocks.Malloc(q, x), blocks.Free(q)}
	if m.Below(4) == 0 {
		return l
	}
	return append(l, m.somewhere(q)...)
}

// emptying is a slot that is stored to, cleared, and asked.
func (m *blockMaker) emptying() []api.Ins {
	if len(m.f.Slots) == 0 {
		return []api.Ins{blocks.Get(m.register(aNumber))}
	}
	slot, q, x, width := m.Below(len(m.f.Slots)), m.register(aPointer), m.register(aNumber), m.widths[0]
	return []api.Ins{blocks.Local(q, slot), blocks.Store(q, x, width), blocks.Clear(slot), blocks.Load(x, q, width), blocks.Put(x)}
}

// calling is a call of any function, mostly with its answer asked for.
func (m *blockMaker) calling() api.Ins {
	g := &m.unit.Fns[m.Below(len(m.unit.Fns))]
	i := blocks.Call(m.Below(len(m.f.Kinds)), g.Name)
	if k := answer(g); k > 0 {
		i.Dst = m.register(k)
	}
	if m.Below(4) == 0 {
		i.Dst = -1
	}
	if g.Name != "main" {
		for _, r := range g.Params {
			i.Args = append(i.Args, m.register(g.Kinds[r]))
		}
	}
	return i
}
