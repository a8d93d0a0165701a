package fat_test

import (
	"math/big"

	"hauberk/api"
	"hauberk/num"
)

// thing is what the model knows of a new block.
type thing struct {
	from, to uint64
	freed    bool
}

// model runs a unit by calls of Go's, one within the other. Memory is of single bytes; all locks that ever were are kept.
type model struct {
	u      api.Unit
	tops   map[string]uint64
	bytes  map[uint64]byte
	shadow map[uint64][]uint64
	keys   map[uint64]uint64 // of the locks that are there
	given  uint64            // the last key
	things []thing
	heap   uint64 // where the last variable or new block ends
	stack  uint64 // where the last slot does
	input  []byte
	fuel   int
	done   map[string]int // how often something came up that is worth a test
	api.Result
}

// next is the next multiple of 16.
func next(n uint64) uint64 {
	for n%16 != 0 {
		n++
	}
	return n
}

func modelRun(u api.Unit, input []byte, fuel int, done map[string]int) api.Result {
	m := &model{u: u, tops: map[string]uint64{}, bytes: map[uint64]byte{}, shadow: map[uint64][]uint64{}, keys: map[uint64]uint64{0: 1}, given: 1, heap: 4096, stack: 2097152, input: input, fuel: fuel, done: done}
	for _, t := range u.Tops {
		m.tops[t.Name] = next(m.heap)
		m.heap = next(m.heap) + uint64(t.Size)
	}
	if m.heap > 2097152 {
		return api.Result{State: api.Fault}
	}
	if l, ok := m.call("main", nil); ok {
		m.State = api.Exit
		if len(l) > 0 {
			m.Code = byte(l[0])
		}
	}
	return m.Result
}

// end stops the run.
func (m *model) end(state int, code uint64) bool {
	m.State, m.Code = state, byte(code)
	return false
}

// lock is a new one, and its key.
func (m *model) lock() (uint64, uint64) {
	n := uint64(len(m.keys))
	m.given++
	m.keys[n] = m.given
	return n, m.given
}

func (m *model) live(lock, key uint64) bool {
	k, ok := m.keys[lock]
	return ok && k == key && key != 0
}

// body is a call of the model.
type body struct {
	f         api.Fn
	r         map[int]uint64
	slots     []uint64
	lock, key uint64
	at        int
}

func (b *body) list(l []int) []uint64 {
	var n []uint64
	for _, r := range l {
		n = append(n, b.r[r])
	}
	return n
}

// call is what a function answers; false, where the run has stopped.
func (m *model) call(name string, args []uint64) ([]uint64, bool) {
	b := &body{r: map[int]uint64{}}
	for _, g := range m.u.Fns {
		if g.Name == name {
			b.f = g
		}
	}
	for k, r := range b.f.Params {
		b.r[r] = args[k]
	}
	was := m.stack
	for _, size := range b.f.Slots {
		b.slots = append(b.slots, next(m.stack))
		m.stack = next(m.stack) + uint64(size)
	}
	if m.stack > 4194304 {
		return nil, m.end(api.NoRoom, 0)
	}
	if len(b.slots) > 0 {
		b.lock, b.key = m.lock()
	}
	m.done["call"]++
	for {
		if m.Steps >= m.fuel {
			return nil, m.end(api.Running, 0)
		}
		m.Steps++
		i := b.f.Code[b.at]
		b.at++
		if i.Op == api.FRet {
			m.stack = was
			if len(b.slots) > 0 {
				m.keys[b.lock] = 0
			}
			return b.list(i.Args), true
		}
		if !m.do(b, i) {
			return nil, false
		}
	}
}

// do is all but FRet; false, where the run has stopped.
func (m *model) do(b *body, i api.Ins) bool {
	n, ok := m.number(b, i)
	if ok {
		b.r[i.Dst] = n
		return true
	}
	l := b.list(i.Args)
	switch i.Op {
	case api.MJump:
		b.at = i.To
	case api.MIf:
		if b.r[i.A] > 0 {
			b.at = i.To
		}
	case api.MPut:
		m.Out = append(m.Out, byte(b.r[i.A]))
	case api.MExit:
		return m.end(api.Exit, b.r[i.A])
	case api.FCheck:
		m.Checks++
		if !m.holds(l, i.Size) {
			return m.end(api.Trap, 0)
		}
		m.done["check"]++
	case api.FLoad, api.FStore:
		return m.touch(b, i)
	case api.FWrite:
		m.shadow[b.r[i.A]] = l
	case api.FRead:
		l = append(m.shadow[b.r[i.A]], 0, 0, 0, 0)
		if l[2] != 0 {
			m.done["read"]++
		}
		b.put(i.Outs, l)
	case api.FClear:
		for k := range b.f.Slots[i.N] {
			at := b.slots[i.N] + uint64(k)
			if m.shadow[at] != nil {
				m.done["clear"]++
			}
			m.bytes[at], m.shadow[at] = 0, nil
		}
	case api.FMalloc:
		return m.malloc(b, i)
	case api.FFree:
		return m.free(l)
	case api.FCall:
		answers, ok := m.call(i.Name, l)
		b.put(i.Outs, answers)
		return ok
	}
	return true
}

func (b *body) put(outs []int, l []uint64) {
	for k := range min(len(outs), len(l)) {
		b.r[outs[k]] = l[k]
	}
}

// number is what comes into Dst; false, of those that do something else.
func (m *model) number(b *body, i api.Ins) (uint64, bool) {
	switch i.Op {
	case api.MConst:
		return i.N, true
	case api.MMove:
		return b.r[i.A], true
	case api.MOp:
		n, _ := num.Do(int(i.N), b.r[i.A], b.r[i.B])
		return n, true
	case api.MNarrow:
		return signed(b.r[i.A], i.Size), true
	case api.MGet:
		m.done["get"]++
		if len(m.input) == 0 {
			return 18446744073709551615, true
		}
		c := m.input[0]
		m.input = m.input[1:]
		return uint64(c), true
	case api.FTop:
		return m.tops[i.Name], true
	case api.FSlot:
		return b.slots[i.N], true
	case api.FLock:
		return b.lock, true
	case api.FKey:
		return b.key, true
	}
	return 0, false
}

// holds: is so much within the bounds, by numbers without an end?
func (m *model) holds(l []uint64, size int) bool {
	value, base, bound := new(big.Int).SetUint64(l[0]), new(big.Int).SetUint64(l[1]), new(big.Int).SetUint64(l[2])
	if !m.live(l[4], l[3]) || value.Cmp(base) < 0 || value.Cmp(bound) > 0 {
		return false
	}
	return value.Add(value, big.NewInt(int64(size))).Cmp(bound) <= 0
}

// touch does a load or a store.
func (m *model) touch(b *body, i api.Ins) bool {
	at, size := b.r[i.A], uint64(i.Size)
	if at%size > 0 || at < 4096 || at >= 4194304 || at+size > 4194304 {
		return m.end(api.Fault, 0)
	}
	if i.Op == api.FStore {
		m.done["store"]++
		for k := range size {
			m.bytes[at+k] = byte(b.r[i.B] >> (8 * k))
		}
		return true
	}
	n := uint64(0)
	for k := range size {
		n = n<<8 + uint64(m.bytes[at+size-1-k])
	}
	if n != 0 {
		m.done["load"]++
	}
	b.r[i.Dst] = signed(n, i.Size)
	return true
}

func (m *model) malloc(b *body, i api.Ins) bool {
	size := b.r[i.A]
	at := next(m.heap)
	if size == 0 || size > 4194304 || at+size > 2097152 {
		return m.end(api.NoRoom, 0)
	}
	m.done["malloc"]++
	m.heap = at + size
	m.things = append(m.things, thing{from: at, to: at + size})
	for k := range size {
		delete(m.bytes, at+k)
	}
	lock, key := m.lock()
	b.put(i.Outs, []uint64{at, at, at + size, key, lock})
	return true
}

func (m *model) free(l []uint64) bool {
	for k, b := range m.things {
		if b.from == l[1] && b.to == l[2] && !b.freed && l[0] == l[1] && m.live(l[4], l[3]) {
			m.done["free"]++
			m.things[k].freed = true
			m.keys[l[4]] = 0
			return true
		}
	}
	return m.end(api.Trap, 0)
}

func signed(v uint64, size int) uint64 {
	switch size {
	case 1:
		return uint64(int64(int8(v)))
	case 4:
		return uint64(int64(int32(v)))
	}
	return v
}
