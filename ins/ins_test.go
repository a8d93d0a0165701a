package ins_test

import (
	"slices"
	"testing"

	"hauberk/api"
	"hauberk/ins"
)

// Each instruction of the language reads, writes and leads to what its function's words say.
func TestParts(t *testing.T) {
	on := []int{8}
	ops := map[int]struct{}{}
	for _, c := range []struct {
		i                   api.Ins
		reads, writes, next []int
	}{
		{ins.Const(1, 9), nil, []int{1}, on}, {ins.Move(1, 2), []int{2}, []int{1}, on}, {ins.Op(1, 2, 3, api.SUB), []int{2, 3}, []int{1}, on}, {ins.Op(1, 1, 1, api.SUB), []int{1, 1}, []int{1}, on}, {ins.Narrow(1, 2, 4), []int{2}, []int{1}, on},
		{ins.Jump(5), nil, nil, []int{5}}, {ins.If(3, 5), []int{3}, nil, []int{8, 5}}, {ins.Put(3), []int{3}, nil, on}, {ins.Get(3), nil, []int{3}, on}, {ins.Exit(3), []int{3}, nil, nil},
		{ins.Top(3, "v"), nil, []int{3}, on}, {ins.Slot(3, 1), nil, []int{3}, on}, {ins.Lock(3), nil, []int{3}, on}, {ins.Key(3), nil, []int{3}, on},
		{ins.Check(8, 1, 2, 3, 4, 5), []int{1, 2, 3, 4, 5}, nil, on}, {ins.Load(1, 2, 8), []int{2}, []int{1}, on}, {ins.Store(1, 2, 8), []int{1, 2}, nil, on}, {ins.Read(0, 1, 2, 3, 4), []int{0}, []int{1, 2, 3, 4}, on}, {ins.Write(0, 1, 2, 3, 4), []int{0, 1, 2, 3, 4}, nil, on},
		{ins.Clear(1), nil, nil, on}, {ins.Malloc(0, 1, 2, 3, 4, 5), []int{0}, []int{1, 2, 3, 4, 5}, on}, {ins.Free(1, 2, 3, 4, 5), []int{1, 2, 3, 4, 5}, nil, on}, {ins.Call("f", []int{4, 3}, []int{2, 1}), []int{4, 3}, []int{2, 1}, on}, {ins.Call("f", nil, nil), nil, nil, on}, {ins.Ret(3, 4), []int{3, 4}, nil, nil},
	} {
		if r, w, n := ins.Reads(&c.i), ins.Writes(&c.i), ins.Next(&c.i, 7); !slices.Equal(r, c.reads) || !slices.Equal(w, c.writes) || !slices.Equal(n, c.next) {
			t.Errorf("%v: reads %v, writes %v, next %v", c.i, r, w, n)
		}
		ops[c.i.Op] = struct{}{}
	}
	for op := range 60 {
		_, made := ops[op]
		if _, ok := ins.PartsOf(op); ok != made {
			t.Errorf("%d: %v", op, ok)
		}
	}
}

// What is answered is new: to write to it changes no instruction.
func TestNew(t *testing.T) {
	i := ins.Call("f", []int{1, 2}, []int{3, 4})
	for _, l := range [][]int{ins.Reads(&i), ins.Writes(&i)} {
		for k := range l {
			l[k] = 9
		}
	}
	if !slices.Equal(i.Args, []int{1, 2}) || !slices.Equal(i.Outs, []int{3, 4}) {
		t.Error(i)
	}
}
