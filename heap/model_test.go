package heap_test

import (
	"math/big"

	"hauberk/api"
	"hauberk/heap"
)

// model is the chapter's heap once more, written apart from the program: it keeps all that was ever done, and goes through that from the newest on when it is asked what stands somewhere; offsets are numbers without end.
type model struct {
	blocks []made
	done   []deed
}

type made struct {
	size       int
	free, gone bool
}

// deed is a store, or, of a place of no offset, that a block was cleared.
type deed struct {
	block, off int
	all        bool
	v          heap.Value
}

func number(n int) *big.Int { return big.NewInt(int64(n)) }

// wrapped is the sum of numbers as an int.
func wrapped(l ...int) int {
	sum, around := new(big.Int), new(big.Int).Lsh(big.NewInt(1), 64)
	for _, n := range l {
		sum.Add(sum, number(n))
	}
	half := new(big.Int).Rsh(around, 1)
	sum.Add(sum, half).Mod(sum, around).Sub(sum, half)
	return int(sum.Int64())
}

func (m *model) there(block int) bool { return 1 <= block && block <= len(m.blocks) }

func (m *model) live(block int) bool { return m.there(block) && !m.blocks[block-1].gone }

func (m *model) make(size int, free bool) (heap.Ptr, api.Errno) {
	if size < 0 || size > 1<<22 {
		return heap.Ptr{}, api.ErrRange
	}
	m.blocks = append(m.blocks, made{size: size, free: free})
	return heap.Ptr{Block: len(m.blocks), High: size}, api.OK
}

// wrong is what is wrong with a load or a store.
func (m *model) wrong(p heap.Ptr, bytes int) api.Errno {
	end := new(big.Int).Add(number(p.Off), number(bytes))
	switch {
	case bytes != 1 && bytes != 4 && bytes != 8:
		return api.ErrRange
	case p.Block == 0:
		return api.ErrNull
	case !m.live(p.Block):
		return api.ErrGone
	case number(p.Off).Cmp(number(p.Low)) < 0 || end.Cmp(number(p.High)) > 0:
		return api.ErrBounds
	}
	return api.OK
}

func (m *model) load(p heap.Ptr, bytes int) (heap.Value, api.Errno) {
	if e := m.wrong(p, bytes); e != api.OK {
		return heap.Value{}, e
	}
	for k := len(m.done) - 1; k >= 0; k-- {
		if d := m.done[k]; d.block == p.Block && (d.all || d.off == p.Off) {
			return d.v, api.OK
		}
	}
	return heap.Value{}, api.OK
}

func (m *model) store(p heap.Ptr, bytes int, v heap.Value) api.Errno {
	e := m.wrong(p, bytes)
	if e == api.OK {
		m.done = append(m.done, deed{block: p.Block, off: p.Off, v: v})
	}
	return e
}

func (m *model) freed(p heap.Ptr) api.Errno {
	if p.Block == 0 {
		return api.ErrNull
	}
	if !m.live(p.Block) {
		return api.ErrGone
	}
	b := &m.blocks[p.Block-1]
	if !b.free || p.Off != 0 || p.Low != 0 || p.High != b.size {
		return api.ErrFree
	}
	b.gone = true
	return api.OK
}

// numbered is what End and Clear tell.
func (m *model) numbered(block int) api.Errno {
	if !m.there(block) {
		return api.ErrRange
	}
	if !m.live(block) {
		return api.ErrGone
	}
	return api.OK
}

func (m *model) end(block int) api.Errno {
	e := m.numbered(block)
	if e == api.OK {
		m.blocks[block-1].gone = true
	}
	return e
}

func (m *model) clear(block int) api.Errno {
	e := m.numbered(block)
	if e == api.OK {
		m.done = append(m.done, deed{block: block, all: true})
	}
	return e
}

func moved(p heap.Ptr, by int) heap.Ptr {
	if p.Block == 0 {
		return p
	}
	return heap.Ptr{Block: p.Block, Off: wrapped(p.Off, by), Low: p.Low, High: p.High}
}

func part(p heap.Ptr, off, size int) heap.Ptr {
	if p.Block == 0 {
		return p
	}
	q := heap.Ptr{Block: p.Block, Off: wrapped(p.Off, off), Low: p.Low, High: p.High}
	if q.Off > q.Low {
		q.Low = q.Off
	}
	if end := wrapped(p.Off, off, size); end < q.High {
		q.High = end
	}
	return q
}
