package lower

import "hauberk/api"

// The kinds of registers.
const (
	aNumber  = 1
	aPointer = 2
)

// none stands where there is no register.
const none = -1

// maker makes a function, in the order of its text. Nearly each register is made by one instruction alone, so that none is needed for long.
type maker struct {
	*program
	api.Fn
	slots      map[string]uint64 // where a param or a local is
	jumps      map[int]*label    // where those instructions lead that lead elsewhere
	again, out *label            // where continue and break lead
}

// label is a place in the code, which may be told later than it is asked for.
type label struct{ at int }

func (m *maker) add(i api.Ins) { m.Code = append(m.Code, i) }

func (m *maker) register(kind int) int {
	m.Kinds = append(m.Kinds, kind)
	return len(m.Kinds) - 1
}

// made adds an instruction that makes something, and answers the new register that has it.
func (m *maker) made(kind int, i api.Ins) int {
	i.Dst = m.register(kind)
	m.add(i)
	return i.Dst
}

func (m *maker) number(i api.Ins) int { return m.made(aNumber, i) }

func (m *maker) pointer(i api.Ins) int { return m.made(aPointer, i) }

func (m *maker) constant(n uint64) int { return m.number(api.Ins{Op: api.MConst, N: n}) }

func (m *maker) operate(op, a, b int) int {
	return m.number(api.Ins{Op: api.MOp, A: a, B: b, N: uint64(op)})
}

func kindOf(t api.Type) int {
	if isPointer(t) {
		return aPointer
	}
	return aNumber
}

func (m *maker) put(l *label) { l.at = len(m.Code) }

// lead adds an instruction that leads elsewhere.
func (m *maker) lead(i api.Ins, l *label) {
	m.jumps[len(m.Code)] = l
	m.add(i)
}

func (m *maker) jump(l *label) { m.lead(api.Ins{Op: api.MJump}, l) }

// join tells all instructions where they lead, when that is known of each.
func (m *maker) join() {
	for at, l := range m.jumps {
		m.Code[at].To = l.at
	}
}

// slot gives a param or a local its own.
func (m *maker) slot(v api.Var) uint64 {
	k := uint64(len(m.Slots))
	m.slots[v.Name] = k
	m.Slots = append(m.Slots, m.room(v))
	return k
}

func (m *maker) param(v api.Var) {
	r := m.register(kindOf(v.Type))
	m.Params = append(m.Params, r)
	m.slot(v)
	m.store(m.variable(v.Name), r, v.Type)
}
