package samples

import (
	"slices"
	"strconv"

	"hauberk/api"
	"hauberk/blocks"
	"hauberk/chance"
)

// Blocks: a unit of the middle language of blocks (layer 10) that is well formed, and an input. Of each seed it is another; of four that follow each other the first goes wrong soon, each next one goes on for longer. What it loads and stores has one of these widths, the least one first, and stands at multiples of that; 8, a pointer's, is one of them.
func Blocks(seed int, widths ...int) (api.Unit, []byte) {
	m := &blockMaker{Source: chance.New(seed), wild: []int{3, 10, 30, 100}[uint64(seed)%4], widths: widths}
	m.all()
	return m.unit, m.Bytes(4)
}

// The kinds of registers in units of blocks.
const (
	aNumber  = 1
	aPointer = 2
)

// blockMaker makes units of blocks at random; most go on for a while before they go wrong, if they do.
type blockMaker struct {
	chance.Source
	wild   int // one of so many things is anything
	widths []int
	unit   api.Unit
	f      *api.Fn
}

func (m *blockMaker) rarely() bool { return m.Below(m.wild) == 0 }

func (m *blockMaker) pick(l ...int) int { return chance.Pick(&m.Source, l...) }

func (m *blockMaker) choose(l ...api.Ins) api.Ins { return chance.Pick(&m.Source, l...) }

func (m *blockMaker) all() {
	for k := range 1 + m.Below(3) {
		m.unit.Tops = append(m.unit.Tops, api.Top{Name: chance.Pick(&m.Source, "v", "f", "main") + strconv.Itoa(k), Size: m.pick(0, 8, 8, 16, 16, 24, 400)})
	}
	for k := range 1 + m.Below(4) {
		m.unit.Fns = append(m.unit.Fns, m.head("f"+strconv.Itoa(k)))
	}
	m.unit.Fns[m.Below(len(m.unit.Fns))].Name = "main"
	for k := range m.unit.Fns {
		m.f = &m.unit.Fns[k]
		m.body()
	}
}

// head is a function with registers of both kinds, some of them Params; how many it has tells what it answers, so that its calls can ask for the right kind.
func (m *blockMaker) head(name string) api.Fn {
	f := api.Fn{Name: name, Kinds: []int{aNumber, aPointer}}
	for range 2 + m.Below(7) {
		f.Kinds = append(f.Kinds, m.pick(aNumber, aPointer))
	}
	for range m.Below(4) {
		f.Slots = append(f.Slots, m.pick(1, 8, 8, 8, 16, 24))
	}
	f.Params = m.Order(len(f.Kinds))[:m.Below(4)]
	return f
}

// answer is the kind that a function answers of: of a pointer, a number, or (0) neither.
func answer(f *api.Fn) int { return (len(f.Kinds) + len(f.Slots)) % 3 }

func (m *blockMaker) body() {
	if m.f.Name == "main" {
		m.f.Params = nil
	}
	for r, kind := range m.f.Kinds {
		if kind == aPointer && !slices.Contains(m.f.Params, r) && !m.rarely() {
			m.add(m.somewhere(r)...)
		}
	}
	length := len(m.f.Code) + 3 + m.Below(25)
	for len(m.f.Code) < length-1 {
		m.add(m.instructions(length)...)
	}
	m.f.Code = append(m.f.Code[:length-1], m.choose(m.back(), m.back(), blocks.Exit(m.register(aNumber)), blocks.Jump(m.Below(length))))
}

func (m *blockMaker) add(l ...api.Ins) { m.f.Code = append(m.f.Code, l...) }

// register is one of a kind.
func (m *blockMaker) register(kind int) int {
	for {
		if r := m.Below(len(m.f.Kinds)); m.f.Kinds[r] == kind {
			return r
		}
	}
}

// back is an MRet, of the kind that all of the function are of, or of nothing.
func (m *blockMaker) back() api.Ins {
	if k := answer(m.f); k > 0 && m.Below(4) > 0 {
		return blocks.Ret(m.register(k))
	}
	return blocks.Ret(-1)
}

// forth is mostly a place further on.
func (m *blockMaker) forth(length int) int {
	if m.rarely() {
		return m.Below(length)
	}
	return min(len(m.f.Code)+1+m.Below(4), length-1)
}

func (m *blockMaker) number() uint64 {
	switch {
	case m.rarely():
		return m.Next()
	case m.Below(6) == 0:
		return uint64(m.pick(-8, -4, -1, -4096, 127, 128, 255, 256, 300, 1<<31-1, 1<<31, 1<<32, 1<<32+8, 1<<22, 1<<22+1))
	}
	return uint64(m.pick(0, 0, 0, 1, 4, 8, 16, m.Below(20)))
}

// even is the greatest multiple of the least width that isn't above a number.
func (m *blockMaker) even(n uint64) uint64 { return n &^ uint64(m.widths[0]-1) }
