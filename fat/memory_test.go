package fat_test

import (
	"slices"
	"testing"

	"hauberk/api"
	"hauberk/ins"
)

// P12.1: a store is of the low bytes, the lowest first; a load is signed.
func TestNumbers(t *testing.T) {
	places := []api.Ins{ins.Top(8, "v"), ins.Top(8, "w"), ins.Slot(8, 0), ins.Slot(8, 1), ins.Const(8, first), ins.Const(8, last-8), ins.Const(8, middle-8), ins.Const(8, 1<<20), ins.Const(8, 8184)}
	for _, c := range []struct {
		stored uint64
		by, of int
		want   uint64
	}{
		{200, 1, 1, minus(56)}, {127, 1, 1, 127}, {300, 1, 1, 44}, {minus(1), 1, 1, minus(1)}, {200, 1, 4, 200}, {200, 1, 8, 200}, {minus(1), 1, 4, 255}, {minus(1), 4, 8, 1<<32 - 1},
		{200, 4, 1, minus(56)}, {200, 4, 4, 200}, {1 << 31, 4, 4, minus(1 << 31)}, {1 << 31, 4, 8, 1 << 31}, {1<<32 + 7, 4, 8, 7}, {0x1234, 4, 1, 0x34}, {1<<31 - 1, 4, 8, 1<<31 - 1},
		{200, 8, 1, minus(56)}, {1 << 31, 8, 4, minus(1 << 31)}, {1 << 63, 8, 8, 1 << 63}, {1<<32 + 7, 8, 4, 7}, {minus(1), 8, 8, minus(1)}, {0x0123456789abcdef, 8, 8, 0x0123456789abcdef}, {0x0123456789abcdef, 8, 4, minus(0x76543211)},
	} {
		for _, at := range places {
			equal(t, list(c.want, c.stored), ins.Const(1, c.stored), at, ins.Store(8, 1, c.by), ins.Load(0, 8, c.of))
		}
	}
	// Each byte for itself.
	whole := []api.Ins{ins.Const(1, 0x8877665544332211), ins.Const(8, 4096), ins.Store(8, 1, 8)}
	for k, want := range []uint64{0x11, 0x22, 0x33, 0x44, 0x55, 0x66, 0x77, minus(0x78)} {
		equal(t, list(want), append(whole[:3:3], ins.Const(8, 4096+uint64(k)), ins.Load(0, 8, 1))...)
	}
	equal(t, list(0x44332211, minus(0x778899ab)), append(whole[:3:3], ins.Load(0, 8, 4), ins.Const(8, 4100), ins.Load(1, 8, 4))...)
	equal(t, list(0x7f77665544ff2211), append(whole[:3:3], ins.Const(9, 4098), ins.Const(1, 255), ins.Store(9, 1, 1), ins.Const(9, 4103), ins.Const(1, 127), ins.Store(9, 1, 1), ins.Load(0, 8, 8))...)
	equal(t, list(0x0605040344332211), append(whole[:3:3], ins.Const(9, 4100), ins.Const(1, 0xff06050403), ins.Store(9, 1, 4), ins.Load(0, 8, 8))...)
}

// P12.1: what isn't stored to is 0, whatever stands beside it; a load and a store may be of one register.
func TestApart(t *testing.T) {
	for _, at := range []uint64{first, first + 8, 8192, middle, last - 8} {
		equal(t, list(0), ins.Const(1, at), ins.Load(0, 1, 8))
	}
	for _, at := range []uint64{first + 8, 8184, 8192, 1 << 20, middle, middle + 4096} {
		equal(t, list(0, 0, minus(1)), ins.Const(2, minus(1)), ins.Const(8, at), ins.Store(8, 2, 8), ins.Const(9, at-8), ins.Load(0, 9, 8), ins.Const(9, at+8), ins.Load(1, 9, 8), ins.Load(2, 8, 8))
		equal(t, list(5, 6, 7), ins.Const(8, at), ins.Const(9, at-8), ins.Const(10, at+8), ins.Const(0, 5), ins.Store(9, 0, 8), ins.Const(0, 6), ins.Store(8, 0, 8), ins.Const(0, 7), ins.Store(10, 0, 8), ins.Load(0, 9, 8), ins.Load(1, 8, 8), ins.Load(2, 10, 8))
	}
	equal(t, list(4112), ins.Top(0, "w"), ins.Store(0, 0, 8), ins.Load(0, 0, 8))
	equal(t, list(300), ins.Const(0, 300), ins.Top(8, "v"), ins.Store(8, 0, 1))
}

// P12.1: an address that isn't a multiple of the Size, or not from 4096 to below MaxMemory with all its bytes, is a fault.
func TestFaults(t *testing.T) {
	for _, size := range []uint64{1, 4, 8} {
		for _, at := range []uint64{first, first + size, 8192 - size, 8192, middle - size, middle, last - size} {
			equal(t, list(at), ins.Const(0, at), ins.Load(1, 0, int(size)))
			equal(t, list(at), ins.Const(0, at), ins.Store(0, 0, int(size)))
		}
		bad := []uint64{0, size, first - size, first - 1, last, last + size, last - size + 1, 1 << 32, 1<<32 + first, 1 << 63, 1<<63 + first, minus(size), minus(1), minus(first)}
		if size > 1 {
			bad = append(bad, first+1, first+size-1, first+size/2, first+size+1, middle+3, last-1, last-size/2)
		}
		for _, at := range bad {
			stops(t, api.Fault, 0, ins.Const(0, at), ins.Load(1, 0, int(size)))
			stops(t, api.Fault, 0, ins.Const(0, at), ins.Store(0, 1, int(size)))
		}
	}
	// What was put out and checked ahead of it counts.
	l := append(sets(0, 0, 8, 1, 0), ins.Const(5, 'f'), ins.Put(5), ins.Check(8, five()...), ins.Load(5, 0, 1), ins.Put(5), ins.Ret())
	ran(t, unit(l...), "", api.Result{State: api.Fault, Out: []byte("f"), Steps: 9, Checks: 1})
}

// P12.1: at each address, whichever it is, the shadow has four numbers, 0 at first.
func TestShadow(t *testing.T) {
	for _, at := range []uint64{0, 1, 7, first, 4097, middle, last, 1 << 40, minus(1), 1 << 63} {
		equal(t, list(0, 0, 0, 0), ins.Const(8, at), ins.Read(8, 0, 1, 2, 3))
		written := append(sets(11, 22, 33, minus(1)), ins.Const(8, at), ins.Write(8, 0, 1, 2, 3))
		equal(t, list(11, 22, 33, minus(1)), append(written, append(sets(0, 0, 0, 0), ins.Read(8, 0, 1, 2, 3))...)...)
		// Just at that address.
		for _, other := range []uint64{at + 1, at - 1, at + 8, at ^ 1<<32} {
			equal(t, list(0, 0, 0, 0), append(written, ins.Const(8, other), ins.Read(8, 0, 1, 2, 3))...)
		}
		// What is written later stands there alone.
		equal(t, list(22, 22, 11, 33), append(written, ins.Write(8, 1, 1, 0, 2), ins.Read(8, 0, 1, 2, 3))...)
		equal(t, list(0, 0, 0, 0), append(written, ins.Write(8, 4, 4, 4, 4), ins.Read(8, 0, 1, 2, 3))...)
		equal(t, list(0, 0, 0, 22), append(written, ins.Write(8, 4, 4, 4, 1), ins.Read(8, 0, 1, 2, 3))...)
		equal(t, list(22, 33, minus(1), 11), append(written, ins.Read(8, 3, 0, 1, 2))...)
	}
	// The address's register may be among those that are read to, or written.
	equal(t, list(1, 2, 3, 4), append(sets(4096, 1, 2, 3, 4), ins.Write(0, 1, 2, 3, 4), ins.Read(0, 0, 1, 2, 3))...)
	equal(t, list(4096, 7, 7, 4096), append(sets(4096, 7), ins.Write(0, 0, 1, 1, 0), ins.Read(0, 0, 1, 2, 3))...)
	// A store and a load have nothing to do with it.
	equal(t, list(5, 6, 7, 8, 99), append(sets(5, 6, 7, 8, 99), ins.Top(8, "v"), ins.Write(8, 0, 1, 2, 3), ins.Store(8, 4, 8), ins.Const(4, 0), ins.Read(8, 0, 1, 2, 3), ins.Load(4, 8, 8))...)
}

// P12.1: FClear makes a slot's bytes 0, and the shadow of all its addresses; nothing else.
func TestClear(t *testing.T) {
	// main's slots are 8 and 20 bytes; around each, and within it, everything is set, then one is cleared.
	for slot, c := range [][2]uint64{{middle, middle + 8}, {middle + 16, middle + 36}} {
		for at := uint64(middle - 8); at < middle+48; at++ {
			want := list(minus(1), 1, 2, 3, 4)
			if at >= c[0] && at < c[1] {
				want = list(0, 0, 0, 0, 0)
			}
			set := append(sets(255, 1, 2, 3, 4), ins.Const(8, at), ins.Store(8, 0, 1), ins.Write(8, 1, 2, 3, 4), ins.Clear(slot))
			equal(t, want, append(set, append(sets(9, 9, 9, 9, 9), ins.Load(0, 8, 1), ins.Read(8, 1, 2, 3, 4))...)...)
		}
	}
	// Twice, and again after a store.
	equal(t, list(0), ins.Const(0, 7), ins.Slot(8, 0), ins.Store(8, 0, 8), ins.Clear(0), ins.Clear(0), ins.Clear(1), ins.Load(0, 8, 8))
	equal(t, list(7), ins.Const(0, 7), ins.Slot(8, 0), ins.Clear(0), ins.Store(8, 0, 8), ins.Clear(1), ins.Load(0, 8, 8))
	// The greatest slot, to its ends.
	u := unit(ins.Const(0, minus(1)), ins.Slot(8, 1), ins.Store(8, 0, 8), ins.Const(9, api.MaxFrame-8), ins.Op(9, 9, 8, api.ADD), ins.Store(9, 0, 8), ins.Slot(10, 0), ins.Store(10, 0, 8), ins.Slot(11, 2), ins.Store(11, 0, 8),
		ins.Write(8, 0, 0, 0, 0), ins.Write(9, 0, 0, 0, 0), ins.Write(11, 0, 0, 0, 0), ins.Clear(1), ins.Load(0, 8, 8), ins.Load(1, 9, 8), ins.Load(2, 10, 8), ins.Load(3, 11, 8), ins.Read(9, 4, 5, 6, 7), ins.Read(11, 5, 6, 7, 12))
	u.Fns[0].Slots = []int{8, api.MaxFrame, 8}
	is(t, u, 0, 0, 0, 0, minus(1), minus(1), 0, minus(1))
	// The lock and key stay.
	pointer := []api.Ins{ins.Slot(0, 0), ins.Slot(1, 0), ins.Slot(2, 1), ins.Key(3), ins.Lock(4)}
	is(t, unit(append(pointer, ins.Clear(0), ins.Clear(1), ins.Check(8, five()...))...), 0, 1, middle, middle, middle+16, 2, 1)
}

// P12.1: what stands in slots at first is whatever was there; so is their shadow.
func TestSlotsAtFirst(t *testing.T) {
	f := fn("f", []int{0}, ins.Slot(8, 0), ins.Load(5, 8, 8), ins.Read(8, 1, 2, 3, 4), ins.Store(8, 0, 8), ins.Write(8, 0, 1, 0, 1), ins.Ret(5, 1))
	main := []api.Ins{ins.Const(9, 5), ins.Call("f", []int{9}, []int{0, 1}), ins.Const(9, 6), ins.Call("f", []int{9}, []int{2, 3}), ins.Call("f", []int{9}, []int{4, 5})}
	is(t, units(fn("main", nil, main...), f), 0, 0, 0, 0, 5, 5, 6, 6)
	// Another's are there, too; main's, which stand ahead, aren't.
	g := fn("g", nil, ins.Slot(8, 0), ins.Load(5, 8, 8), ins.Slot(8, 1), ins.Load(6, 8, 8), ins.Ret(5, 6))
	is(t, units(fn("main", nil, ins.Slot(9, 0), ins.Const(8, 77), ins.Store(9, 8, 8), ins.Call("f", []int{8}, []int{0, 1}), ins.Call("g", nil, []int{2, 3})), f, g), 0, 0, 0, 0, 77, 0)
	// They may be stored to while no call has them.
	is(t, units(fn("main", nil, ins.Const(9, middle+48), ins.Const(8, 66), ins.Store(9, 8, 8), ins.Call("g", nil, []int{0, 1})), g), 0, 0, 66, 0)
}

// P12.1: a new block's bytes are 0 at first, also where something was stored while it was none; what stands beside it, and the shadow, stay.
func TestBlocksAtFirst(t *testing.T) {
	equal(t, list(0, 4144, 0, 0, 0, 0), ins.Const(8, 8), ins.Malloc(8, 1, 2, 3, 4, 5), ins.Load(0, 1, 8), ins.Read(1, 2, 3, 4, 5))
	for at := uint64(4136); at < 4176; at++ {
		want := list(minus(1), 1, 2, 3, 4)
		if at >= 4144 && at < 4164 {
			want[0] = 0
		}
		l := slices.Concat(sets(255, 1, 2, 3, 4), []api.Ins{ins.Const(8, at), ins.Store(8, 0, 1), ins.Write(8, 1, 2, 3, 4), ins.Const(9, 20), ins.Malloc(9, 10, 11, 12, 13, 14)}, sets(9, 9, 9, 9, 9), []api.Ins{ins.Load(0, 8, 1), ins.Read(8, 1, 2, 3, 4)})
		equal(t, want, l...)
	}
}
