package mid_test

import (
	"math/rand"
	"slices"
	"strconv"

	"hauberk/api"
	"hauberk/num"
)

func pick[T any](r *rand.Rand, l ...T) T { return l[r.Intn(len(l))] }

// maker makes units at random, all of them well formed; most go on for a while before they go wrong, if they do.
type maker struct {
	*rand.Rand
	wild int // one of so many things is anything
	unit api.Unit
	f    *api.Fn
}

func (m *maker) rarely() bool { return m.Intn(m.wild) == 0 }

// made is a unit at random, with a seed that tells how wild it is.
func made(seed int64) api.Unit {
	m := &maker{Rand: rand.New(rand.NewSource(seed)), wild: []int{3, 10, 30, 100}[seed%4]}
	for k := range 1 + m.Intn(3) {
		m.unit.Tops = append(m.unit.Tops, api.Top{Name: pick(m.Rand, "v", "f", "main") + strconv.Itoa(k), Size: pick(m.Rand, 0, 8, 8, 16, 16, 24, 400)})
	}
	for k := range 1 + m.Intn(4) {
		m.unit.Fns = append(m.unit.Fns, m.head("f"+strconv.Itoa(k)))
	}
	m.unit.Fns[m.Intn(len(m.unit.Fns))].Name = "main"
	for k := range m.unit.Fns {
		m.f = &m.unit.Fns[k]
		m.body()
	}
	return m.unit
}

// head is a function with registers of both kinds, some of them Params; its Params' number tells what it answers, so that its calls can ask for the right kind.
func (m *maker) head(name string) api.Fn {
	f := api.Fn{Name: name, Kinds: []int{1, 2}}
	for range 2 + m.Intn(7) {
		f.Kinds = append(f.Kinds, 1+m.Intn(2))
	}
	for range m.Intn(4) {
		f.Slots = append(f.Slots, pick(m.Rand, 1, 8, 8, 8, 16, 24))
	}
	f.Params = m.Perm(len(f.Kinds))[:m.Intn(4)]
	return f
}

// answer is the kind that a function answers of: of a pointer, a number, or (0) neither.
func answer(f *api.Fn) int { return (len(f.Kinds) + len(f.Slots)) % 3 }

func (m *maker) body() {
	if m.f.Name == "main" {
		m.f.Params = nil
	}
	for r, kind := range m.f.Kinds {
		if kind == 2 && !slices.Contains(m.f.Params, r) && !m.rarely() {
			m.add(m.somewhere(r)...)
		}
	}
	length := len(m.f.Code) + 3 + m.Intn(25)
	for len(m.f.Code) < length-1 {
		m.add(m.instructions(length)...)
	}
	m.f.Code = append(m.f.Code[:length-1], pick(m.Rand, m.back(), m.back(), exit(m.register(1)), jump(m.Intn(length))))
}

func (m *maker) add(l ...api.Ins) { m.f.Code = append(m.f.Code, l...) }

// somewhere leads a pointer to a block.
func (m *maker) somewhere(r int) []api.Ins {
	switch m.Intn(4) {
	case 0:
		if len(m.f.Slots) > 0 {
			return []api.Ins{local(r, uint64(m.Intn(len(m.f.Slots))))}
		}
	case 1:
		size := m.register(1)
		return []api.Ins{{Op: api.MConst, Dst: size, N: 8 + m.number()%32}, malloc(r, size)}
	}
	return []api.Ins{top(r, pick(m.Rand, m.unit.Tops...).Name)}
}

// register is one of a kind.
func (m *maker) register(kind int) int {
	for {
		if r := m.Intn(len(m.f.Kinds)); m.f.Kinds[r] == kind {
			return r
		}
	}
}

// back is an MRet, of the kind that all of the function are of, or of nothing.
func (m *maker) back() api.Ins {
	if k := answer(m.f); k > 0 && m.Intn(4) > 0 {
		return ret(m.register(k))
	}
	return ret(-1)
}

// forth is mostly a place further on.
func (m *maker) forth(length int) int {
	if m.rarely() {
		return m.Intn(length)
	}
	return min(len(m.f.Code)+1+m.Intn(4), length-1)
}

func (m *maker) number() uint64 {
	switch {
	case m.rarely():
		return m.Uint64()
	case m.Intn(6) == 0:
		return num.Of(pick(m.Rand, -8, -4, -1, 127, 128, 255, 256, 300, 1<<31-1, 1<<31, 1<<32, 1<<32+8, 1<<22, 1<<22+1))
	}
	return uint64(pick(m.Rand, 0, 0, 0, 1, 4, 8, 16, m.Intn(20)))
}

// instructions are one, or a few that belong together.
func (m *maker) instructions(length int) []api.Ins {
	x, y, z, q := m.register(1), m.register(1), m.register(1), m.register(2)
	switch m.Intn(20) {
	case 0:
		return []api.Ins{{Op: api.MConst, Dst: x, N: m.number()}}
	case 1:
		return []api.Ins{move(x, y), move(m.register(2), q)}
	case 2:
		return []api.Ins{op(x, y, z, uint64(1+m.Intn(27)))}
	case 3:
		return []api.Ins{narrow(x, y, pick(m.Rand, 1, 4, 8)), put(x)}
	case 4:
		return []api.Ins{is(x, q), put(x)}
	case 5:
		return []api.Ins{{Op: api.MConst, Dst: x, N: m.number()}, add(m.register(2), q, x)}
	case 6:
		return []api.Ins{part(m.register(2), q, uint64(pick(m.Rand, 0, 0, 1, 4, 8, m.Intn(1<<22))), 1+pick(m.Rand, 0, 3, 7, 7, 15, m.Intn(1<<22)))}
	case 7:
		return []api.Ins{pick(m.Rand, jump(m.forth(length)), branch(x, m.forth(length)), branch(x, m.forth(length)))}
	case 8:
		return []api.Ins{get(x), put(x)}
	case 9, 10:
		return []api.Ins{m.calling(), put(x)}
	case 11:
		return m.leaving(q)
	case 12:
		return m.somewhere(q)
	case 13, 14:
		return m.passing(q)
	case 15:
		return m.emptying()
	}
	return append(m.somewhere(q), m.passing(q)...)
}

// passing is a store or a load, or both, of what may be known.
func (m *maker) passing(q int) []api.Ins {
	r, width := m.Intn(len(m.f.Kinds)), 8
	if m.f.Kinds[r] == 1 {
		width = pick(m.Rand, 1, 4, 8)
	}
	l := []api.Ins{store(q, r, width), load(r, q, width)}
	k := m.Intn(2)
	return l[k : k+1+m.Intn(2-k)]
}

// leaving is what ends something: the call, the run, or a block.
func (m *maker) leaving(q int) []api.Ins {
	switch m.Intn(12) {
	case 0:
		return []api.Ins{m.back()}
	case 1:
		return []api.Ins{exit(m.register(1))}
	case 2:
		return []api.Ins{malloc(q, m.register(1))}
	case 3:
		return []api.Ins{null(q)}
	case 4:
		return []api.Ins{free(q)}
	}
	x := m.register(1)
	l := []api.Ins{{Op: api.MConst, Dst: x, N: 8 + m.number()%32}, malloc(q, x), free(q)}
	if m.Intn(4) == 0 {
		return l
	}
	return append(l, m.somewhere(q)...)
}

// emptying is a slot that is stored to, cleared, and asked.
func (m *maker) emptying() []api.Ins {
	if len(m.f.Slots) == 0 {
		return []api.Ins{get(m.register(1))}
	}
	slot, q, x := uint64(m.Intn(len(m.f.Slots))), m.register(2), m.register(1)
	return []api.Ins{local(q, slot), store(q, x, 1), empty(slot), load(x, q, 1), put(x)}
}

// calling is a call of any function, mostly with its answer asked for.
func (m *maker) calling() api.Ins {
	g := &m.unit.Fns[m.Intn(len(m.unit.Fns))]
	i := call(m.Intn(len(m.f.Kinds)), g.Name)
	if k := answer(g); k > 0 {
		i.Dst = m.register(k)
	}
	if m.Intn(4) == 0 {
		i.Dst = -1
	}
	if g.Name != "main" {
		for _, r := range g.Params {
			i.Args = append(i.Args, m.register(g.Kinds[r]))
		}
	}
	return i
}
