package opt

import "hauberk/num"

// Which of a pointer's five numbers is which.
const (
	value = iota
	base
	bound
	key
	lock
)

// check leaves out what is known to be right: the pointer's lock has its key still, and so many bytes are within its bounds.
func (m *maker) check(l *line) {
	var p [5]int
	for which, r := range l.Args {
		p[which] = m.has(r)
	}
	in := [3]int{p[value], p[base], p[bound]}
	_, held := m.held[m.by(p[lock], p[key])]
	if !l.first {
		l.gone = held && m.within(in, l.Size)
		m.read(l)
	}
	m.hold(p[lock], p[key])
	m.enclose(in, l.Size)
}

// by is a lock and a key, as locks are now.
func (m *maker) by(lock, key int) [3]int { return [3]int{lock, key, m.has(m.locks)} }

// hold is told that a lock has a key.
func (m *maker) hold(lock, key int) {
	by := m.by(lock, key)
	if _, ok := m.held[by]; !ok {
		m.held[by] = struct{}{}
		m.log = append(m.log, func() { delete(m.held, by) })
	}
}

// enclose is told that so many bytes are within bounds. That stays so, whatever happens to the lock: numbers are what they are.
func (m *maker) enclose(in [3]int, size int) {
	if old := m.inside[in]; size > old {
		m.inside[in] = size
		m.log = append(m.log, func() { m.inside[in] = old })
	}
}

// within tells whether so many bytes are known to be within bounds: by another check, or since value, base and bound are near one address.
func (m *maker) within(in [3]int, size int) bool {
	if m.inside[in] >= size {
		return true
	}
	var off [3]int
	near, _ := m.split(in[value])
	for which, k := range in {
		root, n := m.split(k)
		if root != near || !m.isAddress(k) {
			return false
		}
		off[which] = num.Signed(n)
	}
	return off[base] <= off[value] && off[value]+size <= off[bound]
}
