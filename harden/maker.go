package harden

import (
	"hauberk/api"
	"hauberk/ins"
)

// The kinds of registers in the language of blocks.
const (
	number  = 1
	pointer = 2
)

// none is told where there is no register, but might be one.
const none = -1

// five are a pointer's registers; of a number's the first one alone is one.
type five [5]int

// Which of the five is which.
const (
	value = iota
	base
	bound
	key
	lock
)

// maker makes a function of addresses. What it needs beside the registers of the old one is in registers that are made by one instruction alone, so that none is needed for long.
type maker struct {
	*whole
	api.Fn
	old       *api.Fn
	registers []five // those of each of the old function's
	leads     []int  // instructions that lead where the old ones did
	strays    []int  // those that lead to the end
}

func (m *maker) add(l ...api.Ins) { m.Code = append(m.Code, l...) }

func (m *maker) register() int {
	m.Kinds = append(m.Kinds, number)
	return len(m.Kinds) - 1
}

// row are new registers, for something of a kind.
func (m *maker) row(kind int) five {
	var p five
	for k := range width(kind) {
		p[k] = m.register()
	}
	return p
}

// width is how many registers there are for something of a kind.
func width(kind int) int {
	switch kind {
	case number:
		return 1
	case pointer:
		return len(five{})
	}
	return 0
}

func (m *maker) isPointer(r int) bool { return m.old.Kinds[r] == pointer }

// number is the register of a number, or that of a pointer's value.
func (m *maker) number(r int) int { return m.registers[r][value] }

// all are the registers of one of the old function's, as a new list.
func (m *maker) all(r int) []int {
	p := m.registers[r]
	return p[:width(m.old.Kinds[r])]
}

// rest are those of a pointer but its value.
func (m *maker) rest(r int) []int { return m.all(r)[base:] }

func (m *maker) constant(n uint64) int {
	r := m.register()
	m.add(ins.Const(r, n))
	return r
}

func (m *maker) operate(op, a, b int) int {
	r := m.register()
	m.add(ins.Op(r, a, b, op))
	return r
}

func (m *maker) zero(registers []int) {
	for _, r := range registers {
		m.add(ins.Const(r, 0))
	}
}

func (m *maker) move(to, from []int) {
	for k, r := range to {
		if r != from[k] {
			m.add(ins.Move(r, from[k]))
		}
	}
}

// choose makes a register one of two others: the second, if whether is 1, the first, if it is 0.
func (m *maker) choose(r, first, second, whether int) {
	by := m.operate(api.MUL, m.operate(api.SUB, second, first), whether)
	m.add(ins.Op(r, first, by, api.ADD))
}

// lead adds an instruction that leads to where one of the old function's begins.
func (m *maker) lead(i api.Ins) {
	m.leads = append(m.leads, len(m.Code))
	m.add(i)
}

// join tells these where that is, when it is known.
func (m *maker) join(starts []int) {
	for _, at := range m.leads {
		m.Code[at].To = starts[m.Code[at].To]
	}
}
