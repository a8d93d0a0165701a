package opt

import (
	"slices"

	"hauberk/api"
	"hauberk/ins"
)

// maker goes through a function's blocks, each behind the one above it, and makes lines better by what is known where they stand. What comes to be known in a block is known in all blocks below it, and forgotten behind these.
type maker struct {
	*graph
	*state
	fn        *api.Fn
	code      []line
	changed   []bool // what is, by any line
	shortcuts []shortcut

	// What stands for more than registers: for all locks, for the shadow, for memory, for all slots; for each one of these: slot.
	locks, shadow, memory, slots int
}

func newMaker(f *api.Fn, code []line) *maker {
	n := len(f.Kinds)
	all := n + 4 + len(f.Slots)
	m := &maker{
		graph:   newGraph(code),
		state:   newState(all),
		fn:      f,
		code:    code,
		changed: make([]bool, all),
		locks:   n,
		shadow:  n + 1,
		memory:  n + 2,
		slots:   n + 3,
	}
	m.look()
	m.begin()
	return m
}

// slot stands for one slot: what is there is the same as long as neither this changes nor slots does.
func (m *maker) slot(k int) int { return m.slots + 1 + k }

// look tells what lines change.
func (m *maker) look() {
	for k := range m.blocks {
		b := &m.blocks[k]
		for at := b.from; at < b.to; at++ {
			b.changes = append(b.changes, m.changes(&m.code[at])...)
		}
		slices.Sort(b.changes)
		b.changes = slices.Compact(b.changes)
		for _, r := range b.changes {
			m.changed[r] = true
		}
	}
}

// changes are the registers that a line writes, and what stands for all else that it changes.
func (m *maker) changes(l *line) []int {
	w := ins.Writes(&l.Ins)
	switch {
	case l.Op == api.FStore && l.slot != none:
		w = append(w, m.memory, m.slot(l.slot))
	case l.Op == api.FStore:
		w = append(w, m.memory, m.slots)
	case l.Op == api.FWrite:
		w = append(w, m.shadow)
	case l.Op == api.FClear:
		w = append(w, m.shadow, m.memory, m.slot(int(l.N)))
	case l.Op == api.FMalloc:
		w = append(w, m.shadow, m.memory)
	case l.Op == api.FFree || l.Op == api.FCall:
		w = append(w, m.locks, m.shadow, m.memory, m.slots)
	}
	return w
}

// begin has what is known when a call begins: registers but Params are 0, and its own lock is held. A register that stays 0 is read first where a 0 is asked for.
func (m *maker) begin() {
	zero := m.constant(0)
	for r := range m.now {
		m.now[r] = zero
	}
	for _, r := range m.fn.Params {
		m.set(r, m.of(made{op: fresh, a: none, b: r}))
	}
	for r := m.locks; r < len(m.now); r++ {
		m.set(r, m.of(made{op: fresh, a: none, b: r}))
	}
	for r := range slices.Backward(m.fn.Kinds) {
		if !m.changed[r] && m.now[r] == zero {
			m.settle(zero, r)
		}
	}
	if len(m.fn.Slots) > 0 {
		m.hold(m.of(made{op: api.FLock}), m.of(made{op: api.FKey}))
	}
}

// all goes through all blocks that ways lead to.
func (m *maker) all() {
	type open struct{ block, known int }
	var path []open
	for _, b := range m.tree() {
		for len(path) > 0 && path[len(path)-1].block != m.blocks[b].above {
			m.forget(path[len(path)-1].known)
			path = path[:len(path)-1]
		}
		path = append(path, open{b, len(m.log)})
		m.goThrough(b)
	}
}

// goThrough loses at first what may have changed since the end of the block above it.
func (m *maker) goThrough(b int) {
	m.here = b
	var old []past
	for _, p := range m.between(b) {
		old = m.lose(m.blocks[p].changes, old)
	}
	m.log = append(m.log, func() { m.regain(old) })
	for at := m.blocks[b].from; at < m.blocks[b].to; at++ {
		m.better(at)
	}
}

// better makes a line better, and knows from then on what it does.
func (m *maker) better(at int) {
	l := &m.code[at]
	switch {
	case l.calculates():
		m.calculate(l)
	case l.Op == api.FLoad:
		m.load(l)
	case l.Op == api.FStore:
		m.store(at)
	case l.Op == api.FRead:
		m.shadowRead(l)
	case l.Op == api.FWrite:
		m.shadowWrite(at)
	case l.Op == api.FMalloc:
		m.malloc(at)
	case l.Op == api.FCheck:
		m.check(l)
	case l.Op == api.MIf:
		m.branch(at)
	case l.Op == api.MJump:
		m.shorten(at)
	default:
		m.read(l)
		m.change(at)
	}
}

// change makes each number that a line changes one that was nowhere else.
func (m *maker) change(at int) {
	for _, r := range m.changes(&m.code[at]) {
		m.set(r, m.of(made{op: fresh, a: at, b: r}))
	}
}

// read has a line read each number where it was first.
func (m *maker) read(l *line) {
	parts, _ := ins.PartsOf(l.Op)
	if parts.A {
		l.A = m.place(l.A)
	}
	if parts.B {
		l.B = m.place(l.B)
	}
	for k, r := range l.Args {
		l.Args[k] = m.place(r)
	}
}

// place is the register that is read for what another one has. One that no line writes stays: nothing would be won.
func (m *maker) place(r int) int {
	if !m.changed[r] {
		return r
	}
	k := m.has(r)
	h, ok := m.holder(k)
	if !ok {
		m.settle(k, r)
		return r
	}
	return h
}
