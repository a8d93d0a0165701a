package samples

import (
	"slices"
	"strconv"

	"hauberk/api"
	"hauberk/chance"
	"hauberk/ins"
)

// maker makes units at random, all of them well formed; most go on for a while before they go wrong, if they do.
type maker struct {
	chance.Source
	wild  int // one of so many things is anything
	unit  api.Unit
	heads []head
	*head // of the function that is made
}

// head is what is settled of a function ahead of its Code.
type head struct {
	fn       *api.Fn
	numbers  []int   // registers, for numbers
	pointers [][]int // five and five, for pointers
	takes    int     // how many numbers are Params
	pointer  bool    // a pointer is one, too
	answers  int     // how many numbers are answered; a pointer, where it is five
}

func (m *maker) rarely() bool { return m.Below(m.wild) == 0 }

func pick[T any](m *maker, l ...T) T { return chance.Pick(&m.Source, l...) }

func (m *maker) all() {
	for k := range 1 + m.Below(3) {
		m.unit.Tops = append(m.unit.Tops, api.Top{Name: pick(m, "v", "f", "main") + strconv.Itoa(k), Size: pick(m, 0, 8, 8, 16, 20, 24, 400)})
	}
	m.unit.Fns = make([]api.Fn, 1+m.Below(4))
	main := m.Below(len(m.unit.Fns))
	for k := range m.unit.Fns {
		name := "f" + strconv.Itoa(k)
		if k == main {
			name = "main"
		}
		m.heads = append(m.heads, m.settle(&m.unit.Fns[k], name))
	}
	for k := range m.heads {
		m.head = &m.heads[k]
		m.body()
	}
}

// settle is a function without Code.
func (m *maker) settle(f *api.Fn, name string) head {
	h := head{fn: f, answers: pick(m, 0, 1, 1, 2, 5)}
	f.Name = name
	pointers := 1 + m.Below(3)
	order := m.Order(3 + m.Below(4) + 5*pointers)
	for range order {
		f.Kinds = append(f.Kinds, 1)
	}
	for k := range pointers {
		h.pointers = append(h.pointers, order[5*k:5*k+5])
	}
	h.numbers = order[5*pointers:]
	if name != "main" {
		h.takes, h.pointer = m.Below(4), m.Below(2) == 0
		f.Params = append(f.Params, h.numbers[:h.takes]...)
	}
	if h.pointer {
		f.Params = append(f.Params, h.pointers[0]...)
	}
	for range m.Below(4) {
		f.Slots = append(f.Slots, pick(m, 1, 8, 8, 12, 16, 24, 40))
	}
	return h
}

func (m *maker) add(l ...api.Ins) { m.fn.Code = append(m.fn.Code, l...) }

func (m *maker) body() {
	for k, p := range m.pointers {
		if (k > 0 || !m.pointer) && !m.rarely() {
			m.add(m.somewhere(p)...)
		}
	}
	length := len(m.fn.Code) + 5 + m.Below(40)
	for len(m.fn.Code) < length-1 {
		m.add(m.instructions(length)...)
	}
	m.fn.Code = append(m.fn.Code[:length-1], pick(m, m.back(), m.back(), ins.Exit(m.number()), ins.Jump(m.Below(length))))
}

// number is a register that is for a number, mostly.
func (m *maker) number() int {
	if m.rarely() {
		return m.Below(len(m.fn.Kinds))
	}
	return pick(m, m.numbers...)
}

// five are a pointer's registers, mostly.
func (m *maker) five() []int {
	if m.rarely() {
		return m.Order(len(m.fn.Kinds))[:5]
	}
	return slices.Clone(pick(m, m.pointers...))
}

// answered are registers, as many as a function answers, no two the same.
func (m *maker) answered(answers int) []int {
	if answers == 5 {
		return m.five()
	}
	return m.Order(len(m.fn.Kinds))[:answers]
}

func (m *maker) back() api.Ins { return ins.Ret(m.answered(m.answers)...) }

// calling is a call of any function.
func (m *maker) calling() api.Ins {
	h := &m.heads[m.Below(len(m.heads))]
	var args []int
	for range h.takes {
		args = append(args, m.number())
	}
	if h.pointer {
		args = append(args, m.five()...)
	}
	return ins.Call(h.fn.Name, args, m.answered(h.answers))
}

// forth is mostly a place further on.
func (m *maker) forth(length int) int {
	if m.rarely() {
		return m.Below(length)
	}
	return min(len(m.fn.Code)+1+m.Below(6), length-1)
}

func (m *maker) constant() uint64 {
	switch {
	case m.rarely():
		return m.Next()
	case m.Below(6) == 0:
		return pick[uint64](m, 1<<64-8, 1<<64-1, 127, 128, 255, 256, 300, 1<<31-1, 1<<31, 1<<32, 4095, 4096, 4104, 1<<21-8, 1<<21, 1<<21+1, 1<<22-8, 1<<22)
	}
	return pick(m, 0, 0, 1, 4, 8, 16, m.Next()%20)
}
