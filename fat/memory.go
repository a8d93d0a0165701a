package fat

import "hauberk/api"

const (
	first  = 4096    // from here on there is memory
	middle = 1 << 21 // from here on slots stand; all else ends ahead of it
	line   = 16      // what stands somewhere stands at a multiple of it
	page   = 4096    // as many bytes are kept together
)

// four are a pointer's numbers but its value, as the shadow has them.
type four [4]uint64

// Which of the four is which.
const (
	base = iota
	bound
	key
	lock
)

// region is a part of memory in which things stand one behind the other.
type region struct{ next, end uint64 }

// add finds the place of the next thing; there is none, if it would end above the region's end.
func (r *region) add(size uint64) (uint64, bool) {
	at := (r.next + line - 1) / line * line
	if size > r.end-at {
		return 0, false
	}
	r.next = at + size
	return at, true
}

// memory is what stands at addresses, and what may still be asked for.
type memory struct {
	pages  map[uint64]*[page]byte // those that were stored to
	shadow map[uint64]four        // of the addresses that it was written of
	keys   []uint64               // of the locks; 0 of one that is gone
	blocks map[uint64]uint64      // where those end that may be freed, by where they begin
	heap   region                 // of variables, and of new blocks behind them
	stack  region                 // of slots
}

func newMemory() *memory {
	return &memory{
		pages:  map[uint64]*[page]byte{},
		shadow: map[uint64]four{},
		keys:   []uint64{1},
		blocks: map[uint64]uint64{},
		heap:   region{first, middle},
		stack:  region{middle, api.MaxMemory},
	}
}

// read is what stands at an address that is a multiple of the size, so that it is within one page.
func (m *memory) read(at uint64, size int) uint64 {
	p := m.pages[at/page]
	if p == nil {
		return 0
	}
	n := uint64(0)
	for k := range size {
		n |= uint64(p[at%page+uint64(k)]) << (8 * k)
	}
	return n
}

// write is for such addresses, too.
func (m *memory) write(at uint64, size int, n uint64) {
	p := m.pages[at/page]
	if p == nil {
		p = &[page]byte{}
		m.pages[at/page] = p
	}
	for k := range size {
		p[at%page+uint64(k)] = byte(n >> (8 * k))
	}
}

// zero makes so many bytes 0.
func (m *memory) zero(at, size uint64) {
	for size > 0 {
		off := at % page
		n := min(size, page-off)
		if p := m.pages[at/page]; p != nil {
			clear(p[off : off+n])
		}
		at, size = at+n, size-n
	}
}

// forget makes the shadow of so many addresses 0.
func (m *memory) forget(at, size uint64) {
	for k := range size {
		delete(m.shadow, at+k)
	}
}

// newLock is behind all others, and its key behind all others'.
func (m *memory) newLock() uint64 {
	n := uint64(len(m.keys))
	m.keys = append(m.keys, n+1)
	return n
}

// live tells whether the lock of a pointer has its key, still.
func (m *memory) live(p four) bool {
	return p[key] != 0 && p[lock] < uint64(len(m.keys)) && m.keys[p[lock]] == p[key]
}

// release makes a lock one that no pointer has a key of.
func (m *memory) release(lock uint64) { m.keys[lock] = 0 }
