package harden_test

import (
	"math"
	"testing"

	"hauberk/api"
	"hauberk/blocks"
	"hauberk/fat"
	"hauberk/harden"
	"hauberk/mid"
	"hauberk/num"
)

// cut is a part that a pointer is made, when it has moved so far.
type cut struct{ by, off, size int }

// through is a load at an offset of the first variable, or of a new block behind it, by a pointer that was cut; the unit tells whether it is right.
func through(size int, fresh bool, at int, cuts ...cut) api.Unit {
	l := []api.Ins{blocks.Top(1, "v")}
	if fresh {
		l = []api.Ins{blocks.Const(0, uint64(size)), blocks.Malloc(1, 0)}
	}
	off := 0
	for _, c := range cuts {
		l = append(l, blocks.Const(0, num.Of(c.by)), blocks.Add(1, 1, 0), blocks.Part(1, 1, c.off, c.size))
		off += c.by + c.off
	}
	l = append(l, blocks.Const(0, num.Of(at-off)), blocks.Add(1, 1, 0), blocks.Load(0, 1, 8), blocks.Ret(0))
	f := api.Fn{Name: "main", Kinds: []int{1, 2}, Code: l}
	return api.Unit{Tops: []api.Top{{Name: "v", Size: size}, {Name: "w", Size: 5000}}, Fns: []api.Fn{f}}
}

// agrees asks that a hardened unit stops as the unit does, and answers whether that is by Exit.
func agrees(t *testing.T, what any, u api.Unit) bool {
	t.Helper()
	want, got := mid.Run(u, nil, plenty), fat.Run(harden.Unit(u), nil, plenty)
	if got.State != way(want.State) || got.Code != want.Code {
		t.Fatalf("P13.2: %v: %v, want as %v", what, got, want)
	}
	return want.State == api.Exit
}

func moves() []int {
	return []int{0, 8, 16, -8, -16, -4088, -4096, -4104, -8192, 4096, -1 << 22, 1 << 22, math.MaxInt - 7, math.MinInt, math.MinInt + 8, math.MinInt + 4096, math.MaxInt - 4095, math.MaxInt - 4103, 1 << 62}
}

func cuts(moves []int, offs, sizes []int) []cut {
	var l []cut
	for _, by := range moves {
		for _, off := range offs {
			for _, size := range sizes {
				l = append(l, cut{by, off, size})
			}
		}
	}
	return l
}

// P13.2: a part of a pointer that is anywhere, also where its address wraps round, may be pointed to just as chapter 8 says.
func TestPart(t *testing.T) {
	right := 0
	for _, c := range cuts(moves(), []int{0, 8, 16, 4096, 4104, 1<<22 - 8}, []int{1, 7, 8, 9, 16, 24, 4096, 4104, 4112, 8200, 12304, 1<<22 - 1, 1 << 22}) {
		for _, size := range []int{24, 20, 8} {
			for _, at := range []int{0, 8, 16, -8, 24} {
				for _, fresh := range []bool{false, true} {
					if agrees(t, c, through(size, fresh, at, c)) {
						right++
					}
				}
			}
		}
	}
	if right < 1000 {
		t.Errorf("only %d loads are right", right)
	}
}

// P13.2: a part of a part is no more than either; where nothing is left, nothing ever is again.
func TestPartOfPart(t *testing.T) {
	right := 0
	few := []int{0, 8, -8, 24, -4096, -4104, 1 << 22, math.MinInt, math.MaxInt - 7, 1 << 62}
	for _, c := range cuts(few, []int{0, 8, 4096}, []int{1, 8, 16, 4112, 1 << 22}) {
		for _, d := range cuts(append(few, 16, -16, -8192, math.MinInt+8, -c.by, -c.by-8, math.MaxInt-c.by), []int{0, 8, 1<<22 - 8}, []int{8, 24, 1 << 22}) {
			for _, at := range []int{0, 8} {
				if agrees(t, []cut{c, d}, through(24, false, at, c, d)) {
					right++
				}
			}
		}
	}
	if right < 500 {
		t.Errorf("only %d loads are right", right)
	}
}

// P13.2: of three parts, too.
func TestPartOfPartOfPart(t *testing.T) {
	few := cuts([]int{0, 8, -8, -4104, math.MaxInt - 7, math.MinInt}, []int{0, 8}, []int{8, 24, 1 << 22})
	right := 0
	for _, a := range few {
		for _, b := range few {
			for _, c := range few {
				if agrees(t, []cut{a, b, c}, through(24, true, 8, a, b, c)) {
					right++
				}
			}
		}
	}
	if right < 50 {
		t.Errorf("only %d loads are right", right)
	}
}

// P13.2: a pointer may be freed just if it is the one to all of its block, whatever it was meanwhile.
func TestWhole(t *testing.T) {
	right := 0
	for _, c := range cuts(moves(), []int{0, 8, 16}, []int{8, 16, 23, 24, 25, 32, 4104, 1 << 22}) {
		for _, at := range []int{0, 8, -8, 16} {
			u := through(24, true, at, c)
			f := &u.Fns[0]
			f.Code[len(f.Code)-2] = blocks.Free(1)
			if agrees(t, c, u) {
				right++
			}
		}
	}
	if right < 5 {
		t.Errorf("only %d frees are right", right)
	}
}

// P13.2: a part of a pointer to nothing is one; the register that it comes from stays, if it is another one.
func TestPartRegisters(t *testing.T) {
	for _, l := range [][]api.Ins{
		{blocks.Null(4), blocks.Part(5, 4, 8, 8), blocks.Is(0, 5), blocks.Ret(0)},
		{blocks.Null(4), blocks.Part(4, 4, 8, 8), blocks.Const(0, 4096), blocks.Add(4, 4, 0), blocks.Is(0, 4), blocks.Ret(0)},
		{blocks.Null(4), blocks.Part(4, 4, 4096, 16), blocks.Load(0, 4, 8), blocks.Ret(0)},
		{blocks.Top(4, "w"), blocks.Part(5, 4, 8, 8), blocks.Const(0, 7), blocks.Store(5, 0, 8), blocks.Const(0, 8), blocks.Add(4, 4, 0), blocks.Load(1, 4, 8), blocks.Ret(1)},
		{blocks.Top(4, "w"), blocks.Part(5, 4, 8, 8), blocks.Const(0, 7), blocks.Store(4, 0, 8), blocks.Load(1, 4, 8), blocks.Ret(1)},
		{blocks.Top(4, "w"), blocks.Part(5, 4, 8, 8), blocks.Load(1, 5, 4), blocks.Const(0, 9), blocks.Store(5, 0, 4), blocks.Load(1, 5, 4), blocks.Ret(1)},
		{blocks.Top(4, "w"), blocks.Move(5, 4), blocks.Const(0, 8), blocks.Add(5, 4, 0), blocks.Store(5, 0, 8), blocks.Load(1, 4, 8), blocks.Put(1), blocks.Load(1, 5, 8), blocks.Ret(1)},
	} {
		alike(t, unit(l...))
	}
}
