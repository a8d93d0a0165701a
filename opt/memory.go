package opt

import (
	"hauberk/api"
	"hauberk/num"
)

// stored is how a number is made that stands in memory, as that is now.
func (m *maker) stored(address, size int) made {
	in := m.has(m.memory)
	if slot := m.slotOf(address, size); slot != none {
		in = m.of(made{op: both, a: m.has(m.slots), b: m.has(m.slot(slot))})
	}
	return made{op: api.FLoad, n: uint64(size), a: address, b: in}
}

// shadowed is how one is made that the shadow has, as that is now.
func (m *maker) shadowed(address, which int) made {
	return made{op: api.FRead, n: uint64(which), a: address, b: m.has(m.shadow)}
}

// slotOf is the slot in which as many bytes stand at an address, in line with their size: slots stand at multiples of 16.
func (m *maker) slotOf(address, size int) int {
	root, n := m.split(address)
	slot, off := m.made[root], num.Signed(n)
	if slot.op == api.FSlot && off >= 0 && off%size == 0 && off <= m.fn.Slots[slot.n]-size {
		return int(slot.n)
	}
	return none
}

// load stays, whatever is known of what it loads, unless it can't be a fault.
func (m *maker) load(l *line) {
	address := m.has(l.A)
	k := m.of(m.stored(address, l.Size))
	l.sound = m.slotOf(address, l.Size) != none
	m.read(l)
	m.set(l.Dst, k)
}

// store makes known what would be loaded from there.
func (m *maker) store(at int) {
	l := &m.code[at]
	address, k := m.has(l.A), m.has(l.B)
	l.slot = m.slotOf(address, l.Size)
	m.read(l)
	m.change(at)
	for _, size := range [3]int{1, 4, 8} {
		if size <= l.Size {
			m.known[m.stored(address, size)] = m.narrowed(k, size)
		}
	}
}

// shadowRead is for a pointer but its value.
func (m *maker) shadowRead(l *line) {
	address := m.has(l.A)
	m.read(l)
	for which, r := range l.Outs {
		m.set(r, m.of(m.shadowed(address, which)))
	}
}

// shadowWrite makes known what would be read from there.
func (m *maker) shadowWrite(at int) {
	l := &m.code[at]
	address := m.has(l.A)
	var four [4]int
	for which, r := range l.Args {
		four[which] = m.has(r)
	}
	m.read(l)
	m.change(at)
	for which, k := range four {
		m.known[m.shadowed(address, which)] = k
	}
}

// malloc makes a pointer whose value is its base, and whose bound is as many bytes further on; its lock is held.
func (m *maker) malloc(at int) {
	l := &m.code[at]
	size := m.has(l.A)
	m.read(l)
	m.change(at)
	var p [5]int
	for which := range p {
		p[which] = m.of(made{op: api.FMalloc, a: at, b: which})
	}
	p[base], p[bound] = p[value], m.operation(api.ADD, p[value], size)
	for which, r := range l.Outs {
		m.set(r, p[which])
	}
	m.hold(p[lock], p[key])
}
