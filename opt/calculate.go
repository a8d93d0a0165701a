package opt

import (
	"hauberk/api"
	"hauberk/ins"
)

// calculate leaves a line out whose register has the number already. Of a constant, and of what another register has, no more is asked than that.
func (m *maker) calculate(l *line) {
	k := m.calculated(&l.Ins)
	c, constant := m.told(k)
	h, ok := m.holder(k)
	switch {
	case m.now[l.Dst] == k:
		l.gone = true
	case constant:
		l.Ins = ins.Const(l.Dst, c)
	case ok:
		l.Ins = ins.Move(l.Dst, h)
	default:
		m.read(l)
	}
	m.set(l.Dst, k)
}

// calculated is the number that a line makes which calculates.
func (m *maker) calculated(i *api.Ins) int {
	switch i.Op {
	case api.MConst:
		return m.constant(i.N)
	case api.MMove:
		return m.has(i.A)
	case api.MOp:
		return m.operation(int(i.N), m.has(i.A), m.has(i.B))
	case api.MNarrow:
		return m.narrowed(m.has(i.A), i.Size)
	case api.FLock, api.FKey:
		if len(m.fn.Slots) == 0 {
			return m.constant(0)
		}
	}
	return m.of(made{op: i.Op, n: i.N, name: i.Name})
}
