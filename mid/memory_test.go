package mid_test

import (
	"math"
	"testing"

	"hauberk/api"
	"hauberk/mid"
)

// P10.1: a number is stored by its low bytes, and loaded, signed.
func TestNumbers(t *testing.T) {
	for _, c := range [][4]int{ // stored, with so many bytes, loaded with so many, to be
		{200, 1, 1, -56}, {127, 1, 1, 127}, {300, 1, 1, 44}, {-1, 1, 1, -1}, {200, 1, 4, -56}, {200, 1, 8, -56}, {300, 1, 8, 44},
		{200, 4, 1, -56}, {200, 4, 4, 200}, {1 << 31, 4, 4, -1 << 31}, {1 << 31, 4, 8, -1 << 31}, {1<<32 + 7, 4, 8, 7}, {300, 4, 1, 44}, {1<<31 - 1, 4, 8, 1<<31 - 1},
		{200, 8, 1, -56}, {1 << 31, 8, 4, -1 << 31}, {1 << 31, 8, 8, 1 << 31}, {math.MinInt, 8, 8, math.MinInt}, {1<<32 + 7, 8, 4, 7}, {-1, 8, 8, -1},
	} {
		for _, at := range []api.Ins{top(4, "v"), local(4, 0), local(4, 1), part(4, 4, 0, 8)} {
			equal(t, c[3], constant(1, c[0]), top(4, "w"), at, store(4, 1, c[1]), load(0, 4, c[2]))
		}
	}
	// What isn't stored to is 0, whatever stands beside it.
	equal(t, 0, top(4, "w"), load(0, 4, 8))
	equal(t, 0, local(4, 1), load(0, 4, 4))
	equal(t, 0, constant(1, -1), top(4, "w"), store(4, 1, 8), add(5, 4, 0), constant(2, 8), add(5, 5, 2), load(0, 5, 8))
	equal(t, 5, constant(1, 5), top(4, "w"), store(4, 1, 8), constant(2, 8), add(5, 4, 2), constant(1, 6), store(5, 1, 8), load(0, 4, 8))
	// The number in the register stays whole.
	equal(t, 300, constant(0, 300), top(4, "v"), store(4, 0, 1))
}

// P10.1: where a number stands, a pointer that is loaded is to nothing; where a pointer stands, a number is 0; either is gone by a store of the other.
func TestBoth(t *testing.T) {
	equal(t, 1, constant(1, 77), top(4, "v"), store(4, 1, 8), load(5, 4, 8), is(0, 5))
	equal(t, 0, local(5, 0), top(4, "v"), store(4, 5, 8), constant(0, 9), load(0, 4, 8))
	equal(t, 0, local(5, 0), top(4, "v"), store(4, 5, 8), constant(0, 9), load(0, 4, 1))
	equal(t, 1, local(5, 0), top(4, "v"), store(4, 5, 8), constant(1, 3), store(4, 1, 1), load(5, 4, 8), is(0, 5))
	equal(t, 0, constant(1, 3), top(4, "v"), store(4, 1, 8), local(5, 0), store(4, 5, 8), load(0, 4, 8))
	// A number that was loaded where a pointer stands is a number and no more.
	equal(t, 1, local(5, 0), top(4, "v"), store(4, 5, 8), load(1, 4, 8), store(4, 1, 8), load(5, 4, 8), is(0, 5))
	// A pointer that was loaded where a number stands is to nothing and no more.
	equal(t, 0, constant(1, 77), top(4, "v"), store(4, 1, 8), load(5, 4, 8), store(4, 5, 8), load(0, 4, 8))
	// A pointer that was stored and loaded points as before, and no further.
	equal(t, 6, top(4, "w"), part(5, 4, 4, 4), local(6, 0), store(6, 5, 8), constant(1, 6), store(5, 1, 4), load(7, 6, 8), load(0, 7, 4))
	stuck(t, api.ErrBounds, top(4, "w"), part(5, 4, 4, 4), local(6, 0), store(6, 5, 8), load(7, 6, 8), load(0, 7, 8))
}

// P10.1: each variable and each slot has a block of its size, and of its own.
func TestSizes(t *testing.T) {
	for _, c := range []struct {
		at   api.Ins
		size int
	}{{top(4, "none"), 0}, {top(4, "v"), 8}, {top(4, "w"), 16}, {local(4, 0), 8}, {local(4, 1), 12}} {
		for _, width := range []int{1, 4, 8} {
			for off := range c.size - width + 1 {
				equal(t, 9, constant(1, off), c.at, add(4, 4, 1), constant(1, 9), store(4, 1, width), load(0, 4, width))
			}
			for _, off := range []int{-1, -width, c.size - width + 1, c.size, c.size + 1, math.MaxInt, math.MaxInt - 3, math.MinInt} {
				if off >= 0 && off <= c.size-width {
					continue
				}
				stuck(t, api.ErrBounds, constant(1, off), c.at, add(4, 4, 1), load(0, 4, width))
				stuck(t, api.ErrBounds, constant(1, off), c.at, add(4, 4, 1), store(4, 0, width))
			}
		}
	}
	own := []api.Ins{top(4, "v"), top(5, "w"), local(6, 0), local(7, 1), constant(0, 1), store(4, 0, 4), constant(0, 2), store(5, 0, 4), constant(0, 3), store(6, 0, 4), constant(0, 4), store(7, 0, 4)}
	for k, at := range []api.Ins{top(4, "v"), top(4, "w"), local(4, 0), local(4, 1)} {
		equal(t, k+1, append(append([]api.Ins{}, own...), at, load(0, 4, 4))...)
	}
	great := api.Unit{Tops: []api.Top{{Name: "x", Size: api.MaxMemory}}, Fns: []api.Fn{{Name: "main", Kinds: []int{n, p}, Slots: []int{api.MaxFrame}, Code: []api.Ins{constant(0, api.MaxMemory-8), top(1, "x"), add(1, 1, 0), load(0, 1, 8), constant(0, api.MaxFrame-1), local(1, 0), add(1, 1, 0), load(0, 1, 1), load(0, 1, 4), ret(0)}}}}
	ran(t, great, "", api.Result{State: api.Stuck, Why: api.ErrBounds, Steps: 9})
}

// P10.1: MAdd is Move: it asks for nothing, and wraps round.
func TestAdd(t *testing.T) {
	equal(t, 7, top(4, "w"), constant(0, 8), add(5, 4, 0), constant(1, 7), store(5, 1, 4), constant(0, math.MaxInt), add(6, 4, 0), constant(0, math.MinInt), add(6, 6, 0), constant(0, 9), add(6, 6, 0), load(0, 6, 4))
	equal(t, 7, top(4, "w"), constant(1, 7), store(4, 1, 4), constant(0, -5), add(4, 4, 0), constant(0, 5), add(4, 4, 0), load(0, 4, 4))
	stuck(t, api.ErrNull, constant(0, 5), add(4, 4, 0), load(0, 4, 1))
}

// P10.1: MPart is Part: from N on, and Size bytes, as far as the one might point.
func TestPart(t *testing.T) {
	// in asks for the offsets, from where the pointer stands, that it may point to.
	in := func(low, high int, l ...api.Ins) {
		t.Helper()
		for off := -3; off < 20; off++ {
			c := append(append([]api.Ins{}, l...), constant(0, off), add(4, 4, 0), load(0, 4, 1))
			if off >= low && off < high {
				equal(t, 0, c...)
			} else {
				stuck(t, api.ErrBounds, c...)
			}
		}
	}
	in(0, 16, top(4, "w"))
	in(0, 16, top(4, "w"), part(4, 4, 0, 16))
	in(0, 16, top(4, "w"), part(4, 4, 0, api.MaxMemory))
	in(0, 1, top(4, "w"), part(4, 4, 0, 1))
	in(0, 4, top(4, "w"), part(4, 4, 4, 4))
	in(0, 12, top(4, "w"), part(4, 4, 4, 40))
	in(0, 2, top(4, "w"), part(4, 4, 4, 4), part(4, 4, 2, 9))
	in(0, 3, top(4, "w"), part(4, 4, 4, 4), part(4, 4, 0, 3))
	in(0, 0, top(4, "w"), part(4, 4, 16, 1))
	in(0, 0, top(4, "w"), part(4, 4, api.MaxMemory-1, api.MaxMemory))
	in(4, 6, top(4, "w"), constant(0, -4), add(4, 4, 0), part(4, 4, 0, 6))
	in(-2, 4, top(4, "w"), part(4, 4, 4, 6), constant(0, 2), add(4, 4, 0), part(5, 4, 0, 1))
	stuck(t, api.ErrNull, part(4, 5, 0, 8), load(0, 4, 1))
}

// P10.1: what is right of a load and a store, in chapter 8's order.
func TestStuck(t *testing.T) {
	for _, l := range [][]api.Ins{{}, {null(4)}, {top(4, "v"), null(4)}, {constant(0, 4), add(4, 5, 0)}} {
		stuck(t, api.ErrNull, append(l[:len(l):len(l)], load(0, 4, 1))...)
		stuck(t, api.ErrNull, append(l[:len(l):len(l)], store(4, 0, 8))...)
		stuck(t, api.ErrNull, append(l[:len(l):len(l)], load(4, 4, 8))...)
		stuck(t, api.ErrNull, append(l[:len(l):len(l)], store(4, 4, 8))...)
		stuck(t, api.ErrNull, append(l[:len(l):len(l)], free(4))...)
	}
	gone := []api.Ins{constant(0, 8), malloc(4, 0), free(4)}
	for _, off := range []int{0, 4, 8, -1} {
		l := append(gone[:3:3], constant(0, off), add(4, 4, 0))
		stuck(t, api.ErrGone, append(l[:5:5], load(0, 4, 4))...)
		stuck(t, api.ErrGone, append(l[:5:5], store(4, 0, 4))...)
		stuck(t, api.ErrGone, append(l[:5:5], free(4))...)
	}
	// A load that isn't right puts out nothing that comes behind it.
	ran(t, unit(constant(0, 'a'), put(0), load(0, 4, 1), put(0), ret(0)), "", api.Result{State: api.Stuck, Why: api.ErrNull, Out: []byte("a"), Steps: 3})
}

// P10.1: a new block is of from 1 to MaxMemory bytes; of another number the run is out of room.
func TestMalloc(t *testing.T) {
	for _, size := range []int{1, 2, 8, 15, api.MaxFrame + 1, api.MaxMemory} {
		equal(t, 0, constant(0, size), malloc(4, 0), constant(1, 1), op(0, 0, 1, api.SUB), add(4, 4, 0), load(0, 4, 1))
		stuck(t, api.ErrBounds, constant(0, size), malloc(4, 0), add(4, 4, 0), load(0, 4, 1))
		stuck(t, api.ErrBounds, constant(0, size), malloc(4, 0), constant(0, -1), add(4, 4, 0), load(0, 4, 1))
	}
	for _, size := range []int{0, -1, api.MaxMemory + 1, 1 << 32, 1<<32 + 8, math.MaxInt, math.MinInt, math.MinInt + 8} {
		u := unit(constant(0, 'm'), put(0), constant(0, size), malloc(4, 0), put(0), ret(0))
		ran(t, u, "", api.Result{State: api.NoRoom, Out: []byte("m"), Steps: 4})
	}
	// Blocks are each for itself, new ones where others were freed, too, and there is no end of them.
	equal(t, 5, constant(0, 4), malloc(4, 0), malloc(5, 0), constant(1, 5), store(4, 1, 4), constant(1, 6), store(5, 1, 4), load(0, 4, 4))
	equal(t, 0, constant(0, 4), malloc(4, 0), constant(1, 5), store(4, 1, 4), free(4), malloc(4, 0), load(0, 4, 4))
	stuck(t, api.ErrGone, constant(0, 4), malloc(4, 0), move(5, 4), free(4), malloc(4, 0), load(0, 5, 4))
	many := unit(constant(0, api.MaxMemory), malloc(4, 0), jump(1))
	if r := mid.Run(many, nil, plenty); r.State != api.Running || r.Steps != plenty {
		t.Errorf("P10.1: %v", r)
	}
}

// P10.1: just the pointer to a whole block that was made by MMalloc may be freed, once.
func TestFree(t *testing.T) {
	made := []api.Ins{constant(0, 8), malloc(4, 0)}
	after := func(l ...api.Ins) []api.Ins { return append(made[:2:2], l...) }
	equal(t, 8, after(free(4))...)
	equal(t, 8, after(constant(1, 3), add(4, 4, 1), constant(1, -3), add(4, 4, 1), free(4))...)
	equal(t, 8, after(part(4, 4, 0, 8), free(4))...)
	equal(t, 8, after(top(5, "v"), store(5, 4, 8), load(6, 5, 8), free(6))...)
	for _, l := range [][]api.Ins{{top(4, "v")}, {top(4, "none")}, {local(4, 0)}, {constant(1, 1), add(4, 4, 1)}, {constant(1, 8), add(4, 4, 1)}, {part(4, 4, 0, 7)}, {part(4, 4, 1, 7)}, {part(4, 4, 4, 8)}} {
		stuck(t, api.ErrFree, after(append(l, free(4))...)...)
	}
	stuck(t, api.ErrGone, after(free(4), free(4))...)
	stuck(t, api.ErrGone, after(move(5, 4), free(4), free(5))...)
	stuck(t, api.ErrNull, after(null(4), free(4))...)
}

// P10.1: MClear makes a slot, and no other, what it was at first; pointers to it stay good.
func TestClear(t *testing.T) {
	set := []api.Ins{local(4, 0), local(5, 1), local(6, 1), constant(1, 5), add(6, 6, 1), store(4, 1, 4), store(5, 4, 8), store(6, 1, 4)}
	after := func(l ...api.Ins) []api.Ins { return append(set[:len(set):len(set)], l...) }
	equal(t, 5, after(empty(1), load(0, 4, 4))...)
	equal(t, 0, after(empty(0), load(0, 4, 4))...)
	equal(t, 5, after(empty(0), load(0, 6, 4))...)
	equal(t, 0, after(empty(1), load(0, 6, 4))...)
	equal(t, 0, after(load(7, 5, 8), is(0, 7))...)
	equal(t, 1, after(empty(1), load(7, 5, 8), is(0, 7))...)
	equal(t, 5, after(empty(0), store(4, 1, 4), load(0, 4, 4))...)
	equal(t, 0, after(empty(0), empty(0), empty(1), empty(1), load(0, 4, 4))...)
	// Only the call's own: of main's another call of f clears nothing.
	f := fn("f", []int{4}, local(5, 0), constant(0, 6), store(5, 0, 4), empty(0), ret(-1))
	u := units(fn("main", nil, local(4, 0), constant(0, 3), store(4, 0, 4), call(-1, "f", 4), load(0, 4, 4), ret(0)), f)
	ran(t, u, "", api.Result{State: api.Exit, Code: 3, Steps: 11})
}
