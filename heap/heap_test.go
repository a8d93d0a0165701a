package heap_test

import (
	"math"
	"runtime"
	"testing"

	"hauberk/api"
	"hauberk/heap"
)

// widths are so many bytes as may be loaded or stored at once.
var widths = []int{1, 4, 8}

// extremes are numbers at the ends of what an int may be, and around 0.
var extremes = []int{math.MinInt, math.MinInt + 1, -1 << 32, -9, -8, -4, -1, 0, 1, 3, 4, 7, 8, 9, 1 << 32, math.MaxInt - 8, math.MaxInt - 7, math.MaxInt - 1, math.MaxInt}

// block makes one, and asks for the pointer that is due.
func block(t *testing.T, h *heap.Heap, size int, free bool, number int) heap.Ptr {
	t.Helper()
	p, e := h.Make(size, free)
	if p != (heap.Ptr{Block: number, High: size}) || e != api.OK {
		t.Fatalf("P8.1: Make(%d, %t): %v, %d, want block %d", size, free, p, e, number)
	}
	return p
}

// far is a pointer that may point anywhere.
func far(block, off int) heap.Ptr {
	return heap.Ptr{Block: block, Off: off, Low: math.MinInt, High: math.MaxInt}
}

func holds(t *testing.T, h *heap.Heap, p heap.Ptr, bytes int, want heap.Value) {
	t.Helper()
	if v, e := h.Load(p, bytes); v != want || e != api.OK {
		t.Errorf("P8.1: Load(%v, %d): %v, %d, want %v", p, bytes, v, e, want)
	}
}

// refused asks that neither a load nor a store is right.
func refused(t *testing.T, h *heap.Heap, p heap.Ptr, bytes int, want api.Errno) {
	t.Helper()
	if v, e := h.Load(p, bytes); v != (heap.Value{}) || e != want {
		t.Errorf("P8.1: Load(%v, %d): %v, %d, want %d", p, bytes, v, e, want)
	}
	if e := h.Store(p, bytes, heap.Value{Num: 7, Ptr: p}); e != want {
		t.Errorf("P8.1: Store(%v, %d): %d, want %d", p, bytes, e, want)
	}
}

func told(t *testing.T, call string, got, want api.Errno) {
	t.Helper()
	if got != want {
		t.Errorf("P8.1: %s: %d, want %d", call, got, want)
	}
}

func store(t *testing.T, h *heap.Heap, p heap.Ptr, bytes int, v heap.Value) {
	t.Helper()
	if e := h.Store(p, bytes, v); e != api.OK {
		t.Fatalf("P8.1: Store(%v, %d): %d", p, bytes, e)
	}
}

// P8.1: the chapter's example.
func TestExample(t *testing.T) {
	h := heap.New()
	p := block(t, h, 8, true, 1)
	holds(t, h, heap.Move(p, 4), 4, heap.Value{})
	refused(t, h, heap.Move(p, 5), 4, api.ErrBounds)
}

// P8.1: sizes that a block may have, and that it may not; what is refused takes no number.
func TestMake(t *testing.T) {
	h, n := heap.New(), 0
	for _, size := range append([]int{1<<22 - 1, 1 << 22, 1<<22 + 1, 1 << 23, 100}, extremes...) {
		for _, free := range []bool{true, false} {
			if size >= 0 && size <= 4194304 {
				n++
				block(t, h, size, free, n)
			} else if p, e := h.Make(size, free); p != (heap.Ptr{}) || e != api.ErrRange {
				t.Errorf("P8.1: Make(%d, %t): %v, %d", size, free, p, e)
			}
			if !h.Live(n) || h.Live(n+1) {
				t.Errorf("P8.1: behind Make(%d, %t): block %d isn't the last", size, free, n)
			}
		}
	}
}

// P8.1: the greatest block's last places, and a block that has none.
func TestEnds(t *testing.T) {
	h := heap.New()
	p, q := block(t, h, api.MaxMemory, true, 1), block(t, h, 0, true, 2)
	for _, n := range widths {
		holds(t, h, heap.Move(p, api.MaxMemory-n), n, heap.Value{})
		refused(t, h, heap.Move(p, api.MaxMemory-n+1), n, api.ErrBounds)
		refused(t, h, heap.Move(p, -1), n, api.ErrBounds)
		refused(t, h, q, n, api.ErrBounds)
	}
	told(t, "Clear of none", h.Clear(2), api.OK)
	told(t, "Free of none", h.Free(q), api.OK)
	told(t, "Free of the greatest", h.Free(p), api.OK)
}

// P8.1: so many bytes as there are no loads and stores of, whatever the pointer is.
func TestWidths(t *testing.T) {
	h := heap.New()
	p, q := block(t, h, 64, true, 1), block(t, h, 64, true, 2)
	told(t, "End", h.End(2), api.OK)
	bad := append([]int{2, 5, 6, 16, 1<<32 + 1, 1<<32 + 4, 1<<8 + 8}, extremes...)
	for _, n := range bad {
		if n == 1 || n == 4 || n == 8 {
			continue
		}
		for _, x := range []heap.Ptr{p, q, {}, heap.Move(p, 64), {Block: 9, High: 64}} {
			refused(t, h, x, n, api.ErrRange)
		}
	}
	holds(t, h, p, 8, heap.Value{})
}

// P8.1: of a pointer that is wrong in several ways the first is told.
func TestOrder(t *testing.T) {
	h := heap.New()
	block(t, h, 8, false, 1)
	told(t, "End", h.End(1), api.OK)
	block(t, h, 8, false, 2)
	for _, n := range widths {
		refused(t, h, heap.Ptr{Off: 99}, n, api.ErrNull)
		for _, x := range []int{1, 3, -1, math.MinInt, math.MaxInt} {
			refused(t, h, heap.Ptr{Block: x}, n, api.ErrGone)
			refused(t, h, heap.Ptr{Block: x, High: 8}, n, api.ErrGone)
			told(t, "Free of what isn't live", h.Free(heap.Ptr{Block: x, Off: 1}), api.ErrGone)
			told(t, "Free of what isn't live", h.Free(heap.Ptr{Block: x, High: 8}), api.ErrGone)
		}
		refused(t, h, heap.Ptr{Block: 2}, n, api.ErrBounds)
	}
}

// P8.1: a pointer of block 0 is to nothing, whatever else it has, and stays what it is.
func TestNothing(t *testing.T) {
	h := heap.New()
	block(t, h, 8, true, 1)
	for _, p := range []heap.Ptr{{}, {High: 8}, {Off: 4, High: 8}, {Off: -3, Low: -5, High: 5}, far(0, 1)} {
		for _, n := range widths {
			refused(t, h, p, n, api.ErrNull)
		}
		told(t, "Free of nothing", h.Free(p), api.ErrNull)
		for _, x := range extremes {
			if q := heap.Move(p, x); q != p {
				t.Errorf("P8.1: Move(%v, %d): %v", p, x, q)
			}
			if q := heap.Part(p, x, 8); q != p {
				t.Errorf("P8.1: Part(%v, %d, 8): %v", p, x, q)
			}
		}
	}
}

// fits asks of each byte whether it may be pointed to; Off + bytes must be an int.
func fits(p heap.Ptr, bytes int) bool {
	for k := range bytes {
		if p.Off+k < p.Low || p.Off+k >= p.High {
			return false
		}
	}
	return true
}

// P8.1: all pointers from 0 to 12 of a small block, and around these.
func TestBounds(t *testing.T) {
	h := heap.New()
	block(t, h, 12, false, 1)
	right := 0
	for low := -3; low <= 14; low++ {
		for high := -3; high <= 14; high++ {
			for off := -6; off <= 16; off++ {
				for _, n := range widths {
					p := heap.Ptr{Block: 1, Off: off, Low: low, High: high}
					if !fits(p, n) {
						refused(t, h, p, n, api.ErrBounds)
						continue
					}
					right++
					v := heap.Value{Num: uint64(right), Ptr: p}
					store(t, h, p, n, v)
					holds(t, h, p, n, v)
				}
			}
		}
	}
	if right < 1000 {
		t.Errorf("only %d are right", right)
	}
}

// P8.1: nothing wraps round where so many bytes are asked for.
func TestWrap(t *testing.T) {
	h := heap.New()
	block(t, h, 8, false, 1)
	const least, most = math.MinInt, math.MaxInt
	for _, c := range []struct {
		off, low, high, bytes int
		want                  api.Errno
	}{
		{most, 0, 8, 1, api.ErrBounds}, {most, 0, most, 1, api.ErrBounds}, {most, least, most, 8, api.ErrBounds},
		{most - 1, least, most, 1, api.OK}, {most - 1, least, most, 4, api.ErrBounds}, {most - 3, least, most, 4, api.ErrBounds},
		{most - 4, least, most, 4, api.OK}, {most - 7, 0, most, 8, api.ErrBounds}, {most - 8, 0, most, 8, api.OK},
		{most - 8, most - 8, most, 8, api.OK}, {most - 8, most - 7, most, 8, api.ErrBounds},
		{most - 3, 0, 8, 8, api.ErrBounds}, {most, least, least, 8, api.ErrBounds}, {most, least, least + 8, 1, api.ErrBounds},
		{0, 0, least, 1, api.ErrBounds}, {0, 0, least + 7, 8, api.ErrBounds}, {5, least, least + 3, 4, api.ErrBounds},
		{least, least, least, 1, api.ErrBounds}, {least, least, least + 1, 1, api.OK}, {least, least, least + 7, 8, api.ErrBounds},
		{least, least, least + 8, 8, api.OK}, {least, least, most, 8, api.OK}, {least, least + 1, most, 8, api.ErrBounds},
		{least, 0, 8, 8, api.ErrBounds}, {-1, least, most, 1, api.OK}, {-1, 0, most, 8, api.ErrBounds}, {-1, least, 0, 4, api.ErrBounds},
		{0, least, most, 8, api.OK}, {0, 0, most, 8, api.OK}, {0, 8, 0, 1, api.ErrBounds}, {4, most, least, 1, api.ErrBounds},
	} {
		p := heap.Ptr{Block: 1, Off: c.off, Low: c.low, High: c.high}
		if c.want == api.OK {
			v := heap.Value{Num: uint64(c.off), Ptr: p}
			store(t, h, p, c.bytes, v)
			holds(t, h, p, c.bytes, v)
		} else {
			refused(t, h, p, c.bytes, c.want)
		}
	}
}

// P8.1: what is stored stands whole at its one place, however many bytes it was; the places beside it are others.
func TestValues(t *testing.T) {
	h := heap.New()
	p, q := block(t, h, 24, false, 1), block(t, h, 24, false, 2)
	for k, n := range []int{8, 1, 4, 1, 8} {
		v := heap.Value{Num: math.MaxUint64 - uint64(k), Ptr: heap.Move(q, k)}
		store(t, h, heap.Move(p, 4), n, v)
		for _, w := range widths {
			for off := range 16 {
				want := heap.Value{}
				if off == 4 {
					want = v
				}
				holds(t, h, heap.Move(p, off), w, want)
				holds(t, h, heap.Move(q, off), w, heap.Value{})
			}
			holds(t, h, heap.Part(heap.Move(p, 1), 3, 8), w, v)
		}
	}
	store(t, h, heap.Move(p, 4), 1, heap.Value{})
	holds(t, h, heap.Move(p, 4), 8, heap.Value{})
}

// P8.1: a pointer that is stored comes back as it is, also one to nothing, to what is gone, or to the place itself.
func TestPointers(t *testing.T) {
	h := heap.New()
	p, q := block(t, h, 8, false, 1), block(t, h, 8, true, 2)
	told(t, "Free", h.Free(q), api.OK)
	for _, x := range []heap.Ptr{q, p, heap.Move(p, -9), {Off: 3, Low: 4, High: 5}, far(77, math.MinInt)} {
		store(t, h, p, 8, heap.Value{Ptr: x})
		holds(t, h, p, 8, heap.Value{Ptr: x})
	}
}

// P8.1: what may be freed, by which pointers.
func TestFree(t *testing.T) {
	h := heap.New()
	p, q := block(t, h, 16, true, 1), block(t, h, 16, false, 2)
	store(t, h, p, 8, heap.Value{Num: 5})
	for _, x := range []heap.Ptr{
		heap.Move(p, 1), heap.Move(p, -1), heap.Move(p, 16), heap.Part(p, 0, 15), heap.Part(p, 0, 8), heap.Part(p, 8, 8),
		heap.Move(heap.Part(p, 1, 15), -1), {Block: 1}, {Block: 1, High: 17}, {Block: 1, Low: -1, High: 16},
		{Block: 1, Low: 1, High: 16}, {Block: 1, Off: 4, Low: 4, High: 20}, far(1, 0),
		q, {Block: 2}, heap.Move(q, 8),
	} {
		told(t, "Free by another pointer, or of what may not be", h.Free(x), api.ErrFree)
		if !h.Live(1) || !h.Live(2) {
			t.Fatalf("P8.1: Free(%v): gone", x)
		}
		holds(t, h, p, 8, heap.Value{Num: 5})
	}
	back := heap.Part(heap.Move(heap.Move(p, 12), -12), 0, 99)
	told(t, "Free by the pointer, moved there and back", h.Free(back), api.OK)
	if h.Live(1) || !h.Live(2) {
		t.Error("P8.1: Free: another block is gone")
	}
	told(t, "Free once more", h.Free(p), api.ErrGone)
	told(t, "Free of nothing", h.Free(heap.Ptr{}), api.ErrNull)
	told(t, "End of what was freed", h.End(1), api.ErrGone)
}

// P8.1: blocks end, and are cleared, by their numbers, whether they may be freed or not.
func TestNumbers(t *testing.T) {
	h := heap.New()
	for _, n := range append([]int{1, 2}, extremes...) {
		told(t, "End of no block", h.End(n), api.ErrRange)
		told(t, "Clear of no block", h.Clear(n), api.ErrRange)
		if h.Live(n) {
			t.Errorf("P8.1: Live(%d) of no blocks", n)
		}
	}
	block(t, h, 8, true, 1)
	block(t, h, 8, false, 2)
	block(t, h, 8, false, 3)
	told(t, "End", h.End(1), api.OK)
	told(t, "End", h.End(2), api.OK)
	for n, want := range map[int]api.Errno{-1: api.ErrRange, 0: api.ErrRange, 1: api.ErrGone, 2: api.ErrGone, 4: api.ErrRange, math.MaxInt: api.ErrRange} {
		told(t, "End", h.End(n), want)
		told(t, "Clear", h.Clear(n), want)
		if h.Live(n) {
			t.Errorf("P8.1: Live(%d)", n)
		}
	}
	told(t, "Clear", h.Clear(3), api.OK)
	if !h.Live(3) {
		t.Error("P8.1: Live(3)")
	}
	told(t, "End", h.End(3), api.OK)
	block(t, h, 8, false, 4)
}

// P8.1: Clear makes all places of one block what they were, wherever a pointer led to, as often as it is asked for.
func TestClear(t *testing.T) {
	h := heap.New()
	p, q := block(t, h, 8, true, 1), block(t, h, 8, true, 2)
	offs := []int{0, 1, 4, 7, 8, -1, math.MinInt, math.MaxInt - 1}
	for k := range 3 {
		v := heap.Value{Num: 3 + uint64(k), Ptr: q}
		for _, off := range offs {
			store(t, h, far(1, off), 1, v)
			store(t, h, far(2, off), 1, v)
			store(t, h, far(1, off), 1, v)
		}
		told(t, "Clear", h.Clear(1), api.OK)
		for _, off := range offs {
			holds(t, h, far(1, off), 1, heap.Value{})
			holds(t, h, far(2, off), 1, v)
		}
		told(t, "Clear", h.Clear(1), api.OK)
	}
	store(t, h, p, 8, heap.Value{Num: 1})
	holds(t, h, p, 8, heap.Value{Num: 1})
	told(t, "Free of what was cleared", h.Free(p), api.OK)
}

// P8.2: a block that is gone stays so: the next has another number, and nothing of it; those beside it hold what they held.
func TestGone(t *testing.T) {
	h := heap.New()
	kept := block(t, h, 8, true, 1)
	store(t, h, kept, 8, heap.Value{Num: 1})
	for k := range 100 {
		p := block(t, h, 8, true, 2+k)
		holds(t, h, p, 8, heap.Value{})
		store(t, h, p, 8, heap.Value{Num: 9, Ptr: p})
		if k%2 == 0 {
			told(t, "Free", h.Free(p), api.OK)
		} else {
			told(t, "End", h.End(p.Block), api.OK)
		}
		told(t, "Free behind that", h.Free(p), api.ErrGone)
		told(t, "End behind that", h.End(p.Block), api.ErrGone)
		for _, n := range widths {
			refused(t, h, p, n, api.ErrGone)
			refused(t, h, heap.Part(p, 0, 8), n, api.ErrGone)
			refused(t, h, far(p.Block, 0), n, api.ErrGone)
		}
		told(t, "Clear of what is gone", h.Clear(p.Block), api.ErrGone)
		holds(t, h, kept, 8, heap.Value{Num: 1})
	}
}

// P8.1: pointers move by any number, and wrap round.
func TestMove(t *testing.T) {
	for _, off := range extremes {
		for _, by := range extremes {
			for _, b := range []int{1, -1, math.MaxInt} {
				p := heap.Ptr{Block: b, Off: off, Low: 3, High: -5}
				want := p
				want.Off = wrapped(off, by)
				if q := heap.Move(p, by); q != want {
					t.Errorf("P8.1: Move(%v, %d): %v, want %v", p, by, q, want)
				}
			}
		}
	}
}

// P8.1: parts, written out.
func TestPart(t *testing.T) {
	const least, most = math.MinInt, math.MaxInt
	whole := heap.Ptr{Block: 3, High: 16}
	middle := heap.Ptr{Block: 3, Off: 6, Low: 4, High: 12}
	for _, c := range []struct {
		p              heap.Ptr
		off, size      int
		at, low, below int
	}{
		{whole, 0, 16, 0, 0, 16}, {whole, 4, 4, 4, 4, 8}, {whole, 4, 0, 4, 4, 4}, {whole, 4, -2, 4, 4, 2},
		{whole, 12, 8, 12, 12, 16}, {whole, 16, 8, 16, 16, 16}, {whole, 20, 8, 20, 20, 16}, {whole, -4, 8, -4, 0, 4}, {whole, -8, 8, -8, 0, 0},
		{middle, 0, 4, 6, 6, 10}, {middle, 0, 16, 6, 6, 12}, {middle, -2, 8, 4, 4, 12}, {middle, -6, 24, 0, 4, 12}, {middle, 8, 4, 14, 14, 12},
		{whole, most, 0, most, most, 16}, {whole, most, 1, most, most, least}, {whole, 1, most, 1, 1, least}, {whole, 0, most, 0, 0, 16},
		{whole, least, 8, least, 0, least + 8}, {whole, 8, least, 8, 8, least + 8}, {whole, -1, least, -1, 0, 16},
		{middle, most, 8, least + 5, 4, least + 13}, {middle, least, 8, least + 6, 4, least + 14}, {middle, most - 6, 8, most, most, least + 7},
		{heap.Ptr{Block: -2, Off: most, Low: least, High: most}, 1, 5, least, least, least + 5},
	} {
		want := heap.Ptr{Block: c.p.Block, Off: c.at, Low: c.low, High: c.below}
		if q := heap.Part(c.p, c.off, c.size); q != want {
			t.Errorf("P8.1: Part(%v, %d, %d): %v, want %v", c.p, c.off, c.size, q, want)
		}
	}
}

// P7 (R8): heaps have nothing in common.
func TestApart(t *testing.T) {
	a, b := heap.New(), heap.New()
	p := block(t, a, 8, true, 1)
	refused(t, b, p, 8, api.ErrGone)
	block(t, b, 8, true, 1)
	store(t, a, p, 8, heap.Value{Num: 4})
	holds(t, b, p, 8, heap.Value{})
	told(t, "Free", b.Free(p), api.OK)
	holds(t, a, p, 8, heap.Value{Num: 4})
}

// P6: calls of one of many blocks don't go through the others, nor through what was cleared long ago: else this would hardly end.
func TestMany(t *testing.T) {
	h := heap.New()
	const n = 100000
	for k := range n {
		store(t, h, block(t, h, 8, true, k+1), 8, heap.Value{Num: uint64(k)})
	}
	for k := range n {
		p := heap.Ptr{Block: k + 1, High: 8}
		holds(t, h, p, 8, heap.Value{Num: uint64(k)})
		told(t, "Clear", h.Clear(k+1), api.OK)
		holds(t, h, p, 8, heap.Value{})
		told(t, "Free", h.Free(p), api.OK)
	}
	p := block(t, h, 8, false, n+1)
	for k := range n {
		store(t, h, p, 8, heap.Value{Num: uint64(k)})
		told(t, "Clear", h.Clear(n+1), api.OK)
	}
}

// P8.2: of blocks that are gone next to nothing is kept, since nobody can ask for it.
func TestKept(t *testing.T) {
	h := heap.New()
	const n = 300000
	before := inUse()
	for k := range n {
		p := block(t, h, 8, true, k+1)
		store(t, h, p, 8, heap.Value{Num: 1, Ptr: p})
		told(t, "Free", h.Free(p), api.OK)
	}
	if after := inUse(); after > before+8*n {
		t.Errorf("%d bytes are in use behind %d blocks, %d ahead of them", after, n, before)
	}
	block(t, h, 8, true, n+1)
}

// inUse is how much memory the program needs.
func inUse() uint64 {
	runtime.GC()
	s := runtime.MemStats{}
	runtime.ReadMemStats(&s)
	return s.HeapAlloc
}
