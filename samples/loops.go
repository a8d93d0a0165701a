package samples

import (
	"hauberk/api"
	"hauberk/chance"
	"hauberk/ins"
)

// Loops: a unit of fat's language that is well formed, and an input. Its functions have few registers, and lead forth and back all the time, so that what was is seldom what is.
func Loops(seed int) (api.Unit, []byte) {
	m := &looper{Source: chance.New(seed)}
	m.unit.Tops = []api.Top{{Name: "v", Size: 8}, {Name: "w", Size: 24}}
	for _, name := range []string{"main", "f"} {
		m.function(name)
	}
	var input []byte
	for range m.Below(6) {
		input = append(input, chance.Pick(&m.Source, 0, 0, 1, 8, 16, 32, byte(m.Next())))
	}
	return m.unit, input
}

// looper makes such units. All functions have the registers of two pointers, and behind these four for numbers.
type looper struct {
	chance.Source
	unit api.Unit
	fn   api.Fn
}

const numbersFrom, registers = 10, 14

func (m *looper) function(name string) {
	m.fn = api.Fn{Name: name}
	for range registers {
		m.fn.Kinds = append(m.fn.Kinds, 1)
	}
	for range m.Below(3) {
		m.fn.Slots = append(m.fn.Slots, chance.Pick(&m.Source, 8, 16, 20))
	}
	if name == "f" {
		m.fn.Params = append(m.pointer(), m.number())
	}
	length := 8 + m.Below(24)
	m.add(m.pointing()...)
	for len(m.fn.Code) < length-1 {
		m.add(m.some(length)...)
	}
	m.fn.Code = append(m.fn.Code[:length-1], chance.Pick(&m.Source, ins.Ret(m.number()), ins.Ret(m.number()), ins.Jump(m.Below(length))))
	m.unit.Fns = append(m.unit.Fns, m.fn)
}

func (m *looper) add(l ...api.Ins) { m.fn.Code = append(m.fn.Code, l...) }

func (m *looper) number() int { return numbersFrom + m.Below(registers-numbersFrom) }

func (m *looper) pointer() []int {
	from := 5 * m.Below(2)
	return []int{from, from + 1, from + 2, from + 3, from + 4}
}

// some is an instruction, or a few that belong together.
func (m *looper) some(length int) []api.Ins {
	x, y, z, p, q := m.number(), m.number(), m.number(), m.pointer(), m.pointer()
	switch m.Below(24) {
	case 0, 1:
		return []api.Ins{ins.Const(x, chance.Pick[uint64](&m.Source, 0, 0, 1, 1, 4, 8, 1<<64-1, 1<<64-8, 300))}
	case 2, 3:
		return []api.Ins{ins.Move(x, y)}
	case 4, 5, 6:
		return []api.Ins{ins.Op(x, y, z, chance.Pick(&m.Source, api.ADD, api.SUB, api.SLTU, api.MUL, 1+m.Below(27)))}
	case 7:
		return []api.Ins{ins.Narrow(x, y, chance.Pick(&m.Source, 1, 4, 8))}
	case 8, 9:
		return []api.Ins{ins.Put(x)}
	case 10:
		return []api.Ins{ins.Get(x)}
	case 11, 12, 13:
		return []api.Ins{ins.If(x, m.Below(length))}
	case 14:
		return []api.Ins{ins.Jump(m.Below(length))}
	case 15:
		return m.pointing()
	case 16:
		return []api.Ins{ins.Move(q[0], p[0]), ins.Move(q[1], p[1]), ins.Move(q[2], p[2]), ins.Move(q[3], p[3]), ins.Move(q[4], p[4])}
	case 17:
		return []api.Ins{ins.Check(chance.Pick(&m.Source, 1, 4, 8, 16), p...), ins.Put(x)}
	case 18:
		return []api.Ins{ins.Op(p[0], p[0], x, chance.Pick(&m.Source, api.ADD, api.SUB)), ins.Check(chance.Pick(&m.Source, 1, 4, 8), p...)}
	case 19:
		return m.ending(p, q, x)
	case 20:
		return []api.Ins{ins.Call("f", append(p, y), []int{x}), ins.Put(x)}
	}
	return m.passing(p, q, x, y)
}

// pointing leads a pointer to a slot, a variable, or a new block.
func (m *looper) pointing() []api.Ins {
	p, size := m.pointer(), 8
	to := []api.Ins{ins.Top(p[0], "v"), ins.Const(p[3], 1), ins.Const(p[4], 0)}
	switch slots := len(m.fn.Slots); {
	case slots > 0 && m.Below(2) == 0:
		slot := m.Below(slots)
		size = m.fn.Slots[slot]
		to = []api.Ins{ins.Slot(p[0], slot), ins.Key(p[3]), ins.Lock(p[4])}
	case m.Below(3) == 0:
		return []api.Ins{ins.Const(p[1], 16), ins.Malloc(p[1], p...)}
	case m.Below(2) == 0:
		size = 24
		to[0] = ins.Top(p[0], "w")
	}
	return append(to, ins.Move(p[1], p[0]), ins.Const(p[2], uint64(size)), ins.Op(p[2], p[2], p[1], api.ADD))
}

// ending frees a block, now and then by another one's lock, or clears a slot.
func (m *looper) ending(p, q []int, x int) []api.Ins {
	switch {
	case m.Below(3) == 0:
		return []api.Ins{ins.Free(append(append([]int{}, p[:3]...), q[3:]...)...), ins.Put(x)}
	case m.Below(2) == 0 || len(m.fn.Slots) == 0:
		return []api.Ins{ins.Free(p...), ins.Put(x)}
	}
	return []api.Ins{ins.Clear(m.Below(len(m.fn.Slots)))}
}

// passing is what is done where a pointer points, mostly behind a check.
func (m *looper) passing(p, q []int, x, y int) []api.Ins {
	size := chance.Pick(&m.Source, 1, 4, 8)
	check := ins.Check(size, p...)
	l := chance.Pick(&m.Source,
		[]api.Ins{check, ins.Store(p[0], x, size)},
		[]api.Ins{check, ins.Load(x, p[0], size), ins.Put(x)},
		[]api.Ins{check, ins.Store(p[0], x, size), ins.Load(y, p[0], chance.Pick(&m.Source, 1, 4, 8)), ins.Put(y)},
		[]api.Ins{check, ins.Store(p[0], q[0], 8), ins.Write(p[0], q[1:]...)},
		[]api.Ins{check, ins.Read(p[0], q[1:]...), ins.Load(q[0], p[0], 8), ins.Put(q[3])},
	)
	if m.Below(4) == 0 {
		return l[1:]
	}
	return l
}
