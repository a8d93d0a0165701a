package opt

import (
	"slices"

	"hauberk/api"
	"hauberk/ins"
)

// branch settles whether a line leads elsewhere, where that is known.
func (m *maker) branch(at int) {
	l := &m.code[at]
	k := m.has(l.A)
	is, known := m.holds(k)
	switch {
	case known && !is:
		l.gone = true
		return
	case known:
		l.Ins = ins.Jump(l.To)
	default:
		l.A = m.whether(k, m.place(l.A))
	}
	m.shorten(at)
}

// holds tells whether a number isn't 0, and whether that is known.
func (m *maker) holds(k int) (bool, bool) {
	if c, ok := m.told(k); ok {
		return c != 0, true
	}
	return true, m.something(k)
}

// whether is a register that is 0 just where a number is, which another register has: one of those from which it was told, where one is there still.
func (m *maker) whether(k, r int) int {
	for {
		from, ok := m.asked(k)
		if !ok {
			return r
		}
		if h, ok := m.holder(from); ok {
			r = h
		}
		k = from
	}
}

// shortcut is where a line may lead instead, if none of some registers is needed there.
type shortcut struct {
	at, to int
	over   []int
}

// shorten looks for a place further on to which a line may lead.
func (m *maker) shorten(at int) {
	known := len(m.log)
	to, over := m.through(m.code[at].To)
	m.forget(known)
	if to != m.code[at].To {
		m.shortcuts = append(m.shortcuts, shortcut{at, to, over})
	}
}

// far is how many lines are looked at behind one that leads elsewhere.
const far = 8

// through goes on from a place as long as lines but make numbers, and lead where it is known. It answers the last place to which one led, and what was written ahead of that.
func (m *maker) through(to int) (int, []int) {
	var over, wrote []int
	at := to
	for range far {
		l := &m.code[at]
		if !l.gone && !l.calculates() {
			next, known := m.leadsTo(at)
			if !known {
				break
			}
			at, to, over = next, next, wrote
			continue
		}
		if !l.gone {
			m.set(l.Dst, m.calculated(&l.Ins))
			wrote = append(wrote, l.Dst)
		}
		at++
	}
	return to, over
}

// leadsTo is where a line leads that leads elsewhere, or may, if that is known.
func (m *maker) leadsTo(at int) (int, bool) {
	l := &m.code[at]
	if l.Op != api.MIf {
		return l.To, l.Op == api.MJump
	}
	is, known := m.holds(m.has(l.A))
	if is {
		return l.To, known
	}
	return at + 1, known
}

// take has lines lead further on, where what they go over then isn't needed.
func take(shortcuts []shortcut, n *needs) {
	for _, s := range shortcuts {
		if !slices.ContainsFunc(s.over, n.begins[n.starts[s.to]].has) {
			n.code[s.at].To = s.to
		}
	}
}
