package harden

import (
	"hauberk/api"
	"hauberk/ins"
)

// wide are as many bytes as a pointer's value has. Where so many stand there is a pointer or a number: either is nothing, asked for as the other one.
const wide = 8

// check is ahead of each load and each store: nothing comes between that would make it another address.
func (m *maker) check(i *api.Ins) { m.add(ins.Check(i.Size, m.all(i.A)...)) }

func (m *maker) load(i *api.Ins) {
	at, r := m.number(i.A), m.number(i.Dst)
	m.check(i)
	switch {
	case m.isPointer(i.Dst):
		// The value comes last: the pointer may be loaded over the one to where it stands.
		m.add(ins.Read(at, m.rest(i.Dst)...), ins.Load(r, at, wide))
	case i.Size == wide:
		m.loadWide(r, at)
	default:
		m.add(ins.Load(r, at, i.Size))
	}
}

// loadWide makes a number 0, if a pointer that is to something stands at an address.
func (m *maker) loadWide(r, at int) {
	p := m.row(pointer)
	m.add(ins.Load(p[value], at, wide), ins.Read(at, p[base:]...))
	m.add(ins.Op(r, p[value], m.operate(api.SLTU, p[key], m.constant(1)), api.MUL))
}

func (m *maker) store(i *api.Ins) {
	if m.isPointer(i.B) {
		m.storePointer(i)
		return
	}
	at := m.number(i.A)
	m.check(i)
	m.add(ins.Store(at, m.number(i.B), i.Size))
	if i.Size == wide {
		zero := m.constant(0)
		m.add(ins.Write(at, zero, zero, zero, zero))
	}
}

// storePointer stores 0 as the value of a pointer to nothing, wherever that was moved: a number that is loaded there is 0.
func (m *maker) storePointer(i *api.Ins) {
	at, p := m.number(i.A), m.registers[i.B]
	v := m.operate(api.MUL, p[value], m.operate(api.SLTU, m.constant(0), p[key]))
	m.check(i)
	m.add(ins.Store(at, v, wide), ins.Write(at, m.rest(i.B)...))
}
