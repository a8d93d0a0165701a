package harden

import (
	"hauberk/api"
	"hauberk/ins"
)

// A pointer to structs that is moved round all addresses may come back into the middle of a struct. There numbers of other sizes meet, which share their bytes in the language of addresses, but nothing in that of blocks. So where parts have several sizes, such a pointer is found out as soon as it comes near its block, and the run is out of memory, which it may be anywhere.

// stray does so for a pointer that was moved by the instruction at a place of the old function. One that went straight is whole strides from its base, where it is near. By strides that are a power of two, as the number of all addresses is, none goes astray.
func (m *maker) stray(at int, p five) {
	by := m.stride(at)
	if !m.mixed || by&(by-1) == 0 {
		return
	}
	stride := m.constant(by)
	off := m.operate(api.ADD, m.operate(api.SUB, p[value], p[base]), stride)
	size := m.operate(api.ADD, m.operate(api.SUB, p[bound], p[base]), stride)
	astray := m.operate(api.MUL, m.operate(api.SLTU, off, size), m.operate(api.REMU, off, stride))
	m.strays = append(m.strays, len(m.Code))
	m.add(ins.If(astray, 0))
}

// stride is what a number was multiplied by, either way, just ahead of its use in an MAdd; 0, if it wasn't.
func (m *maker) stride(at int) uint64 {
	if at < 2 {
		return 0
	}
	by, times := &m.old.Code[at-2], &m.old.Code[at-1]
	if by.Op == api.MConst && times.Op == api.MOp && times.N == api.MUL && times.B == by.Dst && times.Dst == m.old.Code[at].B {
		return min(by.N, -by.N)
	}
	return 0
}

// end is where those go that have gone astray: there is no block of 0 bytes.
func (m *maker) end() {
	if len(m.strays) == 0 {
		return
	}
	for _, at := range m.strays {
		m.Code[at].To = len(m.Code)
	}
	size, p := m.constant(0), m.row(pointer)
	m.add(ins.Malloc(size, p[:]...), ins.Exit(size))
}
