package mid_test

import (
	"math/big"

	"hauberk/api"
	"hauberk/num"
)

// pointer is the model's: it knows its block itself (nil: to nothing); where it stands is kept without end, and taken back to 64 bits where it moves.
type pointer struct {
	to             *block
	off, low, high int64
}

// block of the model: what was stored, by offsets.
type block struct {
	size  int64
	free  bool
	gone  bool
	cells map[int64]cell
}

type cell struct {
	number  uint64
	pointer pointer
}

func whole(b *block) pointer { return pointer{to: b, high: b.size} }

func newBlock(size int, free bool) *block {
	return &block{size: int64(size), free: free, cells: map[int64]cell{}}
}

// model runs a unit by calls of Go's, one within the other.
type model struct {
	u     api.Unit
	tops  map[string]*block
	input []byte
	fuel  int
	done  map[string]int // how often something came up that is worth a test
	api.Result
}

func modelRun(u api.Unit, input []byte, fuel int, done map[string]int) api.Result {
	m := &model{u: u, tops: map[string]*block{}, input: input, fuel: fuel, done: done}
	for _, t := range u.Tops {
		m.tops[t.Name] = newBlock(t.Size, false)
	}
	if a, ok := m.call("main", nil); ok {
		m.State, m.Code = api.Exit, byte(a.number)
	}
	return m.Result
}

// end stops the run.
func (m *model) end(state int, code uint64, why api.Errno) bool {
	m.State, m.Code, m.Why = state, byte(code), why
	return false
}

// call is what a function answers; false, where the run has stopped.
func (m *model) call(name string, args []cell) (cell, bool) {
	var f api.Fn
	for _, g := range m.u.Fns {
		if g.Name == name {
			f = g
		}
	}
	m.done["call"]++
	registers, slots := map[int]cell{}, []*block{}
	for k, r := range f.Params {
		registers[r] = args[k]
	}
	for _, s := range f.Slots {
		slots = append(slots, newBlock(s, false))
	}
	at := 0
	for {
		if m.Steps >= m.fuel {
			return cell{}, m.end(api.Running, 0, 0)
		}
		m.Steps++
		i := f.Code[at]
		at++
		switch i.Op {
		case api.MRet:
			for _, b := range slots {
				b.gone = true
			}
			return registers[i.A], true
		case api.MJump:
			at = i.To
		case api.MIf:
			if registers[i.A].number > 0 {
				at = i.To
			}
		case api.MLocal:
			registers[i.Dst] = cell{pointer: whole(slots[i.N])}
		case api.MClear:
			m.done["clear"] += len(slots[i.N].cells)
			slots[i.N].cells = map[int64]cell{}
		case api.MCall:
			var given []cell
			for _, r := range i.Args {
				given = append(given, registers[r])
			}
			a, ok := m.call(i.Name, given)
			if !ok {
				return cell{}, false
			}
			registers[i.Dst] = a
			// Where nobody asks for the answer it is kept nowhere.
			delete(registers, -1)
		default:
			if !m.do(i, registers, f.Kinds) {
				return cell{}, false
			}
		}
	}
}

// do is what needs only the registers; false, where the run has stopped.
func (m *model) do(i api.Ins, r map[int]cell, kinds []int) bool {
	a, b := r[i.A], r[i.B]
	var v cell
	switch i.Op {
	case api.MConst:
		v.number = i.N
	case api.MMove:
		v = a
	case api.MOp:
		v.number, _ = num.Do(int(i.N), a.number, b.number)
	case api.MNarrow:
		v.number = signed(a.number, i.Size)
	case api.MTop:
		v.pointer = whole(m.tops[i.Name])
	case api.MAdd:
		v.pointer = moved(a.pointer, b.number)
	case api.MPart:
		v.pointer = parted(a.pointer, i.N, i.Size)
	case api.MIs:
		if a.pointer.to == nil {
			v.number = 1
		}
	case api.MLoad, api.MStore, api.MFree:
		return m.touch(i, r, kinds)
	case api.MMalloc:
		if a.number == 0 || a.number > 1<<22 {
			return m.end(api.NoRoom, 0, 0)
		}
		m.done["malloc"]++
		v.pointer = whole(newBlock(int(a.number), true))
	case api.MPut:
		m.Out = append(m.Out, byte(a.number))
		return true
	case api.MGet:
		m.done["get"]++
		v.number = 1<<64 - 1
		if len(m.input) > 0 {
			v.number, m.input = uint64(m.input[0]), m.input[1:]
		}
	case api.MExit:
		return m.end(api.Exit, a.number, 0)
	}
	r[i.Dst] = v
	return true
}

// touch does a load, a store or a free.
func (m *model) touch(i api.Ins, r map[int]cell, kinds []int) bool {
	at := r[i.A].pointer
	switch {
	case at.to == nil:
		return m.end(api.Stuck, 0, api.ErrNull)
	case at.to.gone:
		return m.end(api.Stuck, 0, api.ErrGone)
	case i.Op == api.MFree:
		if !at.to.free || at != whole(at.to) {
			return m.end(api.Stuck, 0, api.ErrFree)
		}
		m.done["free"]++
		at.to.gone = true
		return true
	}
	off, end := big.NewInt(at.off), big.NewInt(int64(i.Size))
	if end.Add(end, off).Cmp(big.NewInt(at.high)) > 0 || off.Cmp(big.NewInt(at.low)) < 0 {
		return m.end(api.Stuck, 0, api.ErrBounds)
	}
	if i.Op == api.MStore {
		m.done["store"]++
		v := r[i.B]
		if kinds[i.B] == 1 {
			v.number = signed(v.number, i.Size)
		}
		at.to.cells[at.off] = v
		return true
	}
	v := at.to.cells[at.off]
	if kinds[i.Dst] == 2 {
		if v.pointer.to != nil {
			m.done["load of a pointer"]++
		}
		r[i.Dst] = cell{pointer: v.pointer}
		return true
	}
	if v.number != 0 {
		m.done["load of a number"]++
	}
	r[i.Dst] = cell{number: signed(v.number, i.Size)}
	return true
}

func signed(v uint64, size int) uint64 {
	switch size {
	case 1:
		return uint64(int64(int8(v)))
	case 4:
		return uint64(int64(int32(v)))
	}
	return v
}

func moved(q pointer, by uint64) pointer {
	if q.to != nil {
		q.off = int64(uint64(q.off) + by)
	}
	return q
}

func parted(q pointer, off uint64, size int) pointer {
	if q.to == nil {
		return q
	}
	q = moved(q, off)
	q.low = max(q.low, q.off)
	q.high = min(q.high, moved(q, uint64(size)).off)
	return q
}
