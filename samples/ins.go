package samples

import (
	"hauberk/api"
	"hauberk/ins"
)

// somewhere leads a pointer to a variable, a slot, or a new block.
func (m *maker) somewhere(p []int) []api.Ins {
	switch m.Below(4) {
	case 0:
		if len(m.fn.Slots) > 0 {
			k := m.Below(len(m.fn.Slots))
			return m.whole(p, ins.Slot(p[0], k), m.fn.Slots[k], ins.Key(p[3]), ins.Lock(p[4]))
		}
	case 1:
		t := pick(m, m.unit.Tops...)
		return m.whole(p, ins.Top(p[0], t.Name), t.Size, ins.Const(p[3], 1), ins.Const(p[4], 0))
	}
	x := m.number()
	return []api.Ins{ins.Const(x, 8+m.constant()%40), ins.Malloc(x, p...)}
}

// whole makes the five numbers of something that stands there to a function's end, or always.
func (m *maker) whole(p []int, at api.Ins, size int, rest ...api.Ins) []api.Ins {
	return append([]api.Ins{at, ins.Move(p[1], p[0]), ins.Const(p[2], uint64(size)), ins.Op(p[2], p[2], p[1], api.ADD)}, rest...)
}

// instructions are one, or a few that belong together.
func (m *maker) instructions(length int) []api.Ins {
	x, y, z := m.number(), m.number(), m.number()
	switch m.Below(20) {
	case 0:
		return []api.Ins{ins.Const(x, m.constant())}
	case 1:
		return []api.Ins{ins.Move(x, y)}
	case 2:
		return []api.Ins{ins.Op(x, y, z, 1+m.Below(27))}
	case 3:
		return []api.Ins{ins.Narrow(x, y, pick(m, 1, 4, 8)), ins.Put(x)}
	case 4:
		return []api.Ins{ins.Get(x), ins.Put(x)}
	case 5, 6:
		to := m.forth(length)
		return []api.Ins{pick(m, ins.Jump(to), ins.If(x, to), ins.If(x, to))}
	case 7, 8:
		return []api.Ins{m.calling(), ins.Put(x)}
	case 9:
		return m.leaving(x)
	case 10:
		return m.moving(x)
	case 11, 12:
		return m.keeping()
	case 13:
		return m.emptying(x)
	case 14, 15:
		return m.passing(m.five(), x, y)
	case 16:
		return m.somewhere(m.five())
	}
	p := m.five()
	return append(m.somewhere(p), m.passing(p, x, y)...)
}

// passing is a store and a load of what a pointer points to, mostly behind a check.
func (m *maker) passing(p []int, x, y int) []api.Ins {
	size := pick(m, 1, 4, 8)
	l := []api.Ins{ins.Check(size, p...), ins.Store(p[0], x, size), ins.Load(y, p[0], pick(m, 1, size)), ins.Put(y)}
	if m.rarely() {
		return l[1:]
	}
	return l[:2+m.Below(3)]
}

// moving leads a pointer further on, or back.
func (m *maker) moving(x int) []api.Ins {
	p := m.five()
	by := pick[uint64](m, 8, 8, 16, 4, 1, 1<<64-8)
	return []api.Ins{ins.Const(x, by), ins.Op(p[0], p[0], x, pick(m, api.ADD, api.SUB)), ins.Check(pick(m, 1, 4, 8, 16), p...)}
}

// keeping is a pointer that is stored with its numbers, and one that is loaded so.
func (m *maker) keeping() []api.Ins {
	p, q := m.five(), m.five()
	l := []api.Ins{ins.Check(8, p...), ins.Store(p[0], q[0], 8), ins.Write(p[0], q[1:]...)}
	back := []api.Ins{ins.Check(8, p...), ins.Load(q[0], p[0], 8), ins.Read(p[0], q[1:]...)}
	return pick(m, l, back, append(l, back...))
}

// emptying is a slot that is stored to, cleared, and asked.
func (m *maker) emptying(x int) []api.Ins {
	if len(m.fn.Slots) == 0 {
		return []api.Ins{ins.Key(x), ins.Put(x), ins.Lock(x), ins.Put(x)}
	}
	p, slot := m.five(), m.Below(len(m.fn.Slots))
	l := []api.Ins{ins.Slot(p[0], slot), ins.Store(p[0], x, 1), ins.Write(p[0], m.five()[1:]...), ins.Clear(slot), ins.Load(x, p[0], 1), ins.Put(x), ins.Read(p[0], p[1:]...), ins.Put(p[3])}
	if m.Below(2) == 0 {
		l[3] = ins.Put(x)
	}
	return l
}

// leaving is what ends something: the call, the run, or a block.
func (m *maker) leaving(x int) []api.Ins {
	p := m.five()
	switch m.Below(12) {
	case 0:
		return []api.Ins{m.back()}
	case 1:
		return []api.Ins{ins.Exit(x)}
	case 2:
		return []api.Ins{ins.Malloc(x, p...)}
	case 3, 4:
		return []api.Ins{ins.Free(p...)}
	}
	l := []api.Ins{ins.Const(x, 8+m.constant()%40), ins.Malloc(x, p...), ins.Free(p...)}
	if m.Below(4) == 0 {
		return l
	}
	return append(l, m.somewhere(p)...)
}
