package heap_test

import (
	"math"
	"math/rand"
	"testing"

	"hauberk/api"
	"hauberk/heap"
)

// pick is one of them.
func pick[T any](r *rand.Rand, l ...T) T { return l[r.Intn(len(l))] }

// someNumber is mostly a small one.
func someNumber(r *rand.Rand) int {
	switch r.Intn(8) {
	case 0:
		return pick(r, extremes...)
	case 1:
		return int(r.Uint64())
	}
	return r.Intn(24) - 6
}

func someValue(r *rand.Rand, pool []heap.Ptr) heap.Value {
	return heap.Value{Num: pick(r, 0, 1, r.Uint64()), Ptr: pick(r, heap.Ptr{}, pick(r, pool...))}
}

// user makes random calls of a heap, by pointers that it got and by ones that nobody gave it, and the same ones of the model.
type user struct {
	*rand.Rand
	t     *testing.T
	h     *heap.Heap
	m     *model
	pool  []heap.Ptr
	tally map[string]int
}

func newUser(t *testing.T, seed int64, tally map[string]int) *user {
	return &user{rand.New(rand.NewSource(seed)), t, heap.New(), &model{}, []heap.Ptr{{}}, tally}
}

func (u *user) same(call string, e, want api.Errno, right bool) {
	u.t.Helper()
	if e != want || !right {
		u.t.Fatalf("P8.1: %s: %d, want %d, or another answer than %v of %v", call, e, want, u.pool, u.m)
	}
	u.tally[call+" "+string(rune('0'+int(e)/10))+string(rune('0'+int(e)%10))]++
}

// keep puts a pointer among those that calls are made by; so few that blocks meet them again.
func (u *user) keep(p heap.Ptr) {
	if len(u.pool) < 12 {
		u.pool = append(u.pool, p)
	} else {
		u.pool[u.Intn(len(u.pool))] = p
	}
}

// somePointer is of the pool, or made of one of these, or of any numbers.
func (u *user) somePointer() heap.Ptr {
	p := pick(u.Rand, u.pool...)
	switch u.Intn(10) {
	case 0:
		by := someNumber(u.Rand)
		q := heap.Move(p, by)
		u.same("Move", 0, 0, q == moved(p, by))
		p = q
	case 1:
		off, size := someNumber(u.Rand), someNumber(u.Rand)
		q := heap.Part(p, off, size)
		u.same("Part", 0, 0, q == part(p, off, size))
		p = q
	case 2:
		p = heap.Ptr{Block: u.someBlock(), Off: someNumber(u.Rand), Low: someNumber(u.Rand), High: someNumber(u.Rand)}
	}
	if u.Intn(4) == 0 {
		u.keep(p)
	}
	return p
}

func (u *user) someBlock() int {
	if u.Intn(6) == 0 {
		return someNumber(u.Rand)
	}
	return u.Intn(len(u.m.blocks) + 2)
}

func (u *user) someWidth() int {
	if u.Intn(12) == 0 {
		return someNumber(u.Rand)
	}
	return pick(u.Rand, widths...)
}

// act makes one call.
func (u *user) act() {
	switch u.Intn(12) {
	case 0:
		size, free := pick(u.Rand, 0, 8, 8, 12, 16, u.Intn(24), someNumber(u.Rand)), u.Intn(3) > 0
		p, e := u.h.Make(size, free)
		q, want := u.m.make(size, free)
		u.same("Make", e, want, p == q)
		if e == api.OK {
			u.keep(p)
		}
	case 1, 2, 3, 4:
		p, n, v := u.somePointer(), u.someWidth(), someValue(u.Rand, u.pool)
		e := u.h.Store(p, n, v)
		u.same("Store", e, u.m.store(p, n, v), true)
	case 5, 6, 7, 8:
		p, n := u.somePointer(), u.someWidth()
		v, e := u.h.Load(p, n)
		w, want := u.m.load(p, n)
		u.same("Load", e, want, v == w)
	case 9:
		p := u.somePointer()
		u.same("Free", u.h.Free(p), u.m.freed(p), true)
	case 10:
		if n := u.someBlock(); u.Intn(3) == 0 {
			u.same("End", u.h.End(n), u.m.end(n), true)
		}
	case 11:
		n := u.someBlock()
		u.same("Clear", u.h.Clear(n), u.m.clear(n), true)
		n = u.someBlock()
		u.same("Live", 0, 0, u.h.Live(n) == u.m.live(n))
	}
}

// P8.1, P7 (R3, R4): random calls, right and wrong ones, answer as the model does.
func TestModel(t *testing.T) {
	tally := map[string]int{}
	for seed := range int64(3000) {
		u := newUser(t, seed, tally)
		for range 150 {
			u.act()
		}
	}
	for _, call := range []string{
		"Make 00", "Make 01", "Load 00", "Load 01", "Load 20", "Load 21", "Load 22", "Store 00", "Store 01", "Store 20", "Store 21", "Store 22",
		"Free 00", "Free 20", "Free 22", "Free 23", "End 00", "End 01", "End 20", "Clear 00", "Clear 01", "Clear 20", "Live 00", "Move 00", "Part 00",
	} {
		if tally[call] < 500 {
			t.Errorf("the random calls don't try enough: %s: %d: %v", call, tally[call], tally)
		}
	}
}

// picture is all that a heap of few blocks holds at some offsets, and which of its blocks are live.
type picture struct {
	live  map[int]bool
	holds map[heap.Place]heap.Value
}

var offsets = []int{math.MinInt, -4, -1, 0, 1, 2, 3, 4, 5, 6, 7, 8, 12, 15, 16, math.MaxInt - 1}

func (u *user) look() picture {
	s := picture{map[int]bool{}, map[heap.Place]heap.Value{}}
	for b := -1; b <= len(u.m.blocks)+1; b++ {
		s.live[b] = u.h.Live(b)
		for _, off := range offsets {
			v, e := u.h.Load(far(b, off), 1)
			if (e == api.OK) != s.live[b] {
				u.t.Fatalf("P8.2: block %d, live %t: Load: %d", b, s.live[b], e)
			}
			s.holds[heap.Place{Block: b, Off: off}] = v
		}
	}
	return s
}

// differ are the blocks and the places in which a picture differs from an earlier one.
func (s picture) differ(old picture) (blocks []int, places []heap.Place) {
	for b, live := range s.live {
		if live != old.live[b] {
			blocks = append(blocks, b)
		}
	}
	for at, v := range s.holds {
		if s.live[at.Block] && v != old.holds[at] {
			places = append(places, at)
		}
	}
	return blocks, places
}

// call makes one call; it tells which block may have come or gone by it, and at which places something else may stand.
func (u *user) call() (block int, mayDiffer func(heap.Place) bool) {
	never := func(heap.Place) bool { return false }
	switch u.Intn(10) {
	case 0:
		if p, e := u.h.Make(u.Intn(20), u.Intn(2) == 0); e == api.OK {
			u.m.blocks = append(u.m.blocks, made{})
			u.keep(p)
			return p.Block, never
		}
	case 1:
		p := u.somePointer()
		u.h.Free(p)
		return p.Block, never
	case 2:
		n := u.someBlock()
		u.h.End(n)
		return n, never
	case 3:
		n := u.someBlock()
		u.h.Clear(n)
		return 0, func(at heap.Place) bool { return at.Block == n }
	case 4:
		u.h.Load(u.somePointer(), u.someWidth())
		u.h.Live(u.someBlock())
	default:
		p := u.somePointer()
		u.h.Store(p, u.someWidth(), someValue(u.Rand, u.pool))
		return 0, func(at heap.Place) bool { return at == heap.Place{Block: p.Block, Off: p.Off} }
	}
	return 0, never
}

// P8.2: what a block holds changes by stores into it, and by Clear of it, alone; and no call makes other blocks go, or come.
func TestSafe(t *testing.T) {
	changed := 0
	for seed := range int64(300) {
		u := newUser(t, seed, map[string]int{})
		old := u.look()
		for range 80 {
			block, mayDiffer := u.call()
			s := u.look()
			blocks, places := s.differ(old)
			for _, b := range blocks {
				if b != block || b == 0 {
					t.Fatalf("P8.2: seed %d: block %d has come or gone, by a call of block %d", seed, b, block)
				}
			}
			for _, at := range places {
				if !mayDiffer(at) {
					t.Fatalf("P8.2: seed %d: %v has changed", seed, at)
				}
			}
			changed += len(places)
			old = s
		}
	}
	if changed < 1000 {
		t.Errorf("only %d places have changed", changed)
	}
}
