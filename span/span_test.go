package span_test

import (
	"math"
	"slices"
	"testing"

	"hauberk/api"
	"hauberk/chance"
	"hauberk/ins"
	"hauberk/span"
)

// fn is a function with so many registers, and slots of 8 and 20 bytes.
func fn(registers int, params []int, l ...api.Ins) api.Fn {
	return api.Fn{Name: "f", Params: params, Kinds: slices.Repeat([]int{1}, registers), Slots: []int{8, 20}, Code: l}
}

// none is the span of a register that has none.
func none() span.Span { return span.Span{From: 0, To: -1} }

// P15.1: the chapter's example.
func TestExample(t *testing.T) {
	f := fn(3, nil, ins.Const(0, 0), ins.Const(1, 0), ins.Op(2, 0, 1, api.ADD), ins.Ret(2))
	if l := span.Spans(f); !slices.Equal(l, []span.Span{{From: 0, To: 2}, {From: 1, To: 2}, {From: 2, To: 3}}) {
		t.Errorf("P15.1: Spans: %v", l)
	}
	if l := span.Live(f); !sameLists(l, [][]int{nil, {0}, {0, 1}, {2}}) {
		t.Errorf("P15.1: Live: %v", l)
	}
}

// P15.1: of each instruction what it reads is live at it, what it writes isn't, ahead of what reads that; parts that it doesn't use are no registers.
func TestEach(t *testing.T) {
	all := []int{0, 1, 2, 3, 4, 5, 6, 7, 8}
	for _, c := range []struct {
		i             api.Ins
		reads, writes []int
	}{
		{ins.Const(1, 9), nil, []int{1}}, {ins.Const(0, 3), nil, []int{0}}, {ins.Move(1, 2), []int{2}, []int{1}}, {ins.Move(2, 2), []int{2}, []int{2}}, {ins.Op(1, 2, 3, api.SUB), []int{2, 3}, []int{1}}, {ins.Op(1, 3, 2, api.SUB), []int{2, 3}, []int{1}}, {ins.Op(3, 3, 3, api.ADD), []int{3}, []int{3}}, {ins.Narrow(1, 2, 4), []int{2}, []int{1}},
		{ins.Put(3), []int{3}, nil}, {ins.Get(3), nil, []int{3}}, {ins.Top(3, "v"), nil, []int{3}}, {ins.Slot(3, 1), nil, []int{3}}, {ins.Lock(3), nil, []int{3}}, {ins.Key(3), nil, []int{3}},
		{ins.Check(8, 5, 4, 3, 2, 1), []int{1, 2, 3, 4, 5}, nil}, {ins.Check(1, 5, 5, 5, 5, 5), []int{5}, nil}, {ins.Load(1, 2, 8), []int{2}, []int{1}}, {ins.Store(1, 2, 8), []int{1, 2}, nil}, {ins.Read(1, 2, 3, 4, 5), []int{1}, []int{2, 3, 4, 5}}, {ins.Read(1, 4, 3, 2, 1), []int{1}, []int{1, 2, 3, 4}}, {ins.Write(1, 2, 3, 4, 5), []int{1, 2, 3, 4, 5}, nil},
		{ins.Clear(1), nil, nil}, {ins.Malloc(1, 6, 5, 4, 3, 2), []int{1}, []int{2, 3, 4, 5, 6}}, {ins.Free(1, 2, 3, 4, 5), []int{1, 2, 3, 4, 5}, nil}, {ins.Call("f", []int{4, 3, 4}, []int{2, 1}), []int{3, 4}, []int{1, 2}}, {ins.Call("f", []int{4, 3}, []int{3, 8}), []int{3, 4}, []int{3, 8}}, {ins.Call("f", nil, nil), nil, nil},
		{ins.If(3, 1), []int{3}, nil}, {ins.Jump(1), nil, nil},
	} {
		if l := span.Live(fn(9, nil, c.i, ins.Ret())); !sameLists(l, [][]int{c.reads, nil}) {
			t.Errorf("P15.1: %v: Live: %v", c.i, l)
		}
		rest := slices.DeleteFunc(slices.Clone(all), func(r int) bool { return slices.Contains(c.writes, r) && !slices.Contains(c.reads, r) })
		if l := span.Live(fn(9, nil, c.i, ins.Ret(all...))); !sameLists(l, [][]int{rest, all}) {
			t.Errorf("P15.1: %v, and all are answered: Live: %v", c.i, l)
		}
		want := slices.Repeat([]span.Span{none()}, 9)
		for _, r := range c.writes {
			want[r] = span.Span{From: 1, To: 1}
		}
		for _, r := range c.reads {
			want[r] = span.Span{From: 0, To: 1}
		}
		i := c.i
		if i.To > 0 {
			i.To = 2
		}
		if l := span.Spans(fn(9, nil, ins.Clear(0), i, ins.Ret())); !slices.Equal(l, want) {
			t.Errorf("P15.1: %v: Spans: %v", c.i, l)
		}
	}
	for _, i := range []api.Ins{ins.Ret(3, 1), ins.Exit(4), ins.Ret()} {
		want := map[int][]int{2: {1, 3}, 1: nil, 0: nil}[len(i.Args)]
		if i.Op == api.MExit {
			want = []int{4}
		}
		if l := span.Live(fn(9, nil, i, ins.Ret(all...))); !sameLists(l, [][]int{want, all}) {
			t.Errorf("P15.1: %v: Live: %v", i, l)
		}
	}
}

// P15.1: what is live along ways forth and back, and what is written but not read, read but not written, never named, a param.
func TestWays(t *testing.T) {
	for _, c := range []struct {
		what  string
		f     api.Fn
		live  [][]int
		spans []span.Span
	}{
		{"nothing", fn(0, nil, ins.Ret()), [][]int{nil}, nil},
		{"not named", fn(2, nil, ins.Ret()), [][]int{nil}, []span.Span{none(), none()}},
		{"a param not read", fn(2, []int{1}, ins.Clear(0), ins.Ret()), [][]int{nil, nil}, []span.Span{none(), {From: 0, To: 0}}},
		{"params read", fn(3, []int{2, 0}, ins.Clear(0), ins.Put(2), ins.Ret(0)), [][]int{{0, 2}, {0, 2}, {0}}, []span.Span{{From: 0, To: 2}, none(), {From: 0, To: 1}}},
		{"a param written ahead of being read", fn(1, []int{0}, ins.Clear(0), ins.Clear(0), ins.Get(0), ins.Put(0), ins.Ret()), [][]int{nil, nil, nil, {0}, nil}, []span.Span{{From: 0, To: 3}}},
		{"read, not written", fn(1, nil, ins.Clear(0), ins.Put(0), ins.Ret()), [][]int{{0}, {0}, nil}, []span.Span{{From: 0, To: 1}}},
		{"written, not read", fn(1, nil, ins.Clear(0), ins.Get(0), ins.Clear(0), ins.Get(0), ins.Ret()), slices.Repeat([][]int{nil}, 5), []span.Span{{From: 1, To: 3}}},
		{"written twice, read once", fn(1, nil, ins.Get(0), ins.Get(0), ins.Clear(0), ins.Ret(0)), [][]int{nil, nil, {0}, {0}}, []span.Span{{From: 0, To: 3}}},
		{"a gap", fn(1, nil, ins.Get(0), ins.Put(0), ins.Clear(0), ins.Get(0), ins.Put(0), ins.Ret()), [][]int{nil, {0}, nil, nil, {0}, nil}, []span.Span{{From: 0, To: 4}}},
		{"read and written at once", fn(1, nil, ins.Clear(0), ins.Move(0, 0), ins.Ret()), [][]int{{0}, {0}, nil}, []span.Span{{From: 0, To: 1}}},
		{"to itself", fn(1, []int{0}, ins.Jump(0)), [][]int{nil}, []span.Span{{From: 0, To: 0}}},
		{"to itself, if", fn(2, nil, ins.If(1, 0), ins.Ret(0)), [][]int{{0, 1}, {0}}, []span.Span{{From: 0, To: 1}, {From: 0, To: 0}}},
		{"round", fn(3, nil, ins.Get(0), ins.Get(1), ins.Put(0), ins.Clear(0), ins.If(1, 1), ins.Get(2), ins.Ret()), [][]int{nil, {0}, {0, 1}, {0, 1}, {0, 1}, nil, nil}, []span.Span{{From: 0, To: 4}, {From: 1, To: 4}, {From: 5, To: 5}}},
		{"round, by way of both ends", fn(1, nil, ins.Clear(0), ins.Put(0), ins.Clear(0), ins.Get(0), ins.Clear(0), ins.Jump(1)), [][]int{{0}, {0}, nil, nil, {0}, {0}}, []span.Span{{From: 0, To: 5}}},
		{"round without an end", fn(2, nil, ins.Put(0), ins.Move(1, 0), ins.Jump(0)), [][]int{{0}, {0}, {0}}, []span.Span{{From: 0, To: 2}, {From: 1, To: 1}}},
		{"on one way only", fn(2, []int{0, 1}, ins.If(0, 3), ins.Clear(0), ins.Ret(), ins.Clear(0), ins.Ret(1)), [][]int{{0, 1}, nil, nil, {1}, {1}}, []span.Span{{From: 0, To: 0}, {From: 0, To: 4}}},
		{"on the other way only", fn(2, []int{0, 1}, ins.If(0, 3), ins.Clear(0), ins.Ret(1), ins.Clear(0), ins.Ret()), [][]int{{0, 1}, {1}, {1}, nil, nil}, []span.Span{{From: 0, To: 0}, {From: 0, To: 2}}},
		{"written on one way", fn(2, []int{0}, ins.If(0, 2), ins.Get(1), ins.Ret(1)), [][]int{{0, 1}, nil, {1}}, []span.Span{{From: 0, To: 0}, {From: 0, To: 2}}},
		{"written on both ways", fn(2, []int{0}, ins.If(0, 3), ins.Get(1), ins.Jump(4), ins.Get(1), ins.Ret(1)), [][]int{{0}, nil, {1}, nil, {1}}, []span.Span{{From: 0, To: 0}, {From: 1, To: 4}}},
		{"both ways to one", fn(2, nil, ins.If(0, 1), ins.Ret(1)), [][]int{{0, 1}, {1}}, []span.Span{{From: 0, To: 0}, {From: 0, To: 1}}},
		{"over what isn't gone to", fn(2, nil, ins.Get(0), ins.Jump(3), ins.Put(1), ins.Put(0), ins.Ret()), [][]int{nil, {0}, {0, 1}, {0}, nil}, []span.Span{{From: 0, To: 3}, {From: 2, To: 2}}},
		{"where no way leads to", fn(3, nil, ins.Ret(), ins.Get(0), ins.Put(1), ins.Exit(0), ins.Get(2), ins.Jump(0)), [][]int{nil, {1}, {0, 1}, {0}, nil, nil}, []span.Span{{From: 1, To: 3}, {From: 1, To: 2}, {From: 4, To: 4}}},
		{"back, over a gap", fn(1, nil, ins.Jump(3), ins.Put(0), ins.Ret(), ins.Get(0), ins.Jump(1)), [][]int{nil, {0}, nil, nil, {0}}, []span.Span{{From: 1, To: 4}}},
		{"not behind an end", fn(1, nil, ins.Get(0), ins.Ret(), ins.Put(0), ins.Ret()), [][]int{nil, nil, {0}, nil}, []span.Span{{From: 0, To: 2}}},
		{"not behind an exit", fn(2, nil, ins.Get(0), ins.Exit(1), ins.Put(0), ins.Ret()), [][]int{{1}, {1}, {0}, nil}, []span.Span{{From: 0, To: 2}, {From: 0, To: 1}}},
	} {
		if l := span.Live(c.f); !sameLists(l, c.live) {
			t.Errorf("P15.1: %s: Live: %v, want %v", c.what, l, c.live)
		}
		if l := span.Spans(c.f); !slices.Equal(l, c.spans) {
			t.Errorf("P15.1: %s: Spans: %v, want %v", c.what, l, c.spans)
		}
		asModel(t, c.what, c.f)
	}
}

// P15.1: many registers, near the numbers where words of bits begin and end.
func TestMany(t *testing.T) {
	for _, registers := range []int{1, 2, 31, 32, 33, 63, 64, 65, 127, 128, 129, 200, 257} {
		f := fn(registers, nil)
		for r := range registers {
			f.Code = append(f.Code, ins.Const(r, 1))
		}
		for r := range registers {
			f.Code = append(f.Code, ins.Put(r))
		}
		f.Code = append(f.Code, ins.Ret())
		for r, s := range span.Spans(f) {
			if s != (span.Span{From: r, To: registers + r}) {
				t.Errorf("P15.1: register %d of %d: %v", r, registers, s)
			}
		}
		asModel(t, "one behind the other", f)
		for r := range registers {
			f.Params = append(f.Params, registers-1-r)
		}
		f.Code = []api.Ins{ins.If(registers-1, 2), ins.Ret(), ins.Ret(f.Params...)}
		asModel(t, "all at once", f)
	}
}

// P15.1: spans meet, if an instruction stands in both.
func TestMeet(t *testing.T) {
	var l []span.Span
	for from := -2; from < 6; from++ {
		for to := -2; to < 6; to++ {
			l = append(l, span.Span{From: from, To: to})
		}
	}
	for _, a := range l {
		for _, b := range l {
			if span.Meet(a, b) != meet(a, b) {
				t.Errorf("P15.1: Meet(%v, %v)", a, b)
			}
		}
	}
	whole := span.Span{From: math.MinInt, To: math.MaxInt}
	for _, c := range []struct {
		a, b span.Span
		want bool
	}{
		{whole, whole, true}, {whole, none(), false}, {whole, span.Span{From: math.MaxInt, To: math.MaxInt}, true}, {whole, span.Span{From: math.MinInt, To: math.MinInt}, true},
		{span.Span{From: math.MaxInt, To: math.MinInt}, whole, false}, {span.Span{From: math.MinInt, To: -1}, span.Span{From: 0, To: math.MaxInt}, false}, {span.Span{From: math.MinInt, To: 0}, span.Span{From: 0, To: math.MaxInt}, true}, {none(), none(), false},
	} {
		if span.Meet(c.a, c.b) != c.want || span.Meet(c.b, c.a) != c.want {
			t.Errorf("P15.1: Meet(%v, %v)", c.a, c.b)
		}
	}
}

// P15.1: the greatest number of spans in which one instruction stands.
func TestMost(t *testing.T) {
	for _, c := range []struct {
		l    []span.Span
		want int
	}{
		{nil, 0}, {[]span.Span{}, 0}, {[]span.Span{none()}, 0}, {[]span.Span{none(), none(), {From: 9, To: 3}}, 0}, {[]span.Span{{From: 0, To: 0}}, 1}, {[]span.Span{none(), {From: 7, To: 9}}, 1},
		{[]span.Span{{From: 0, To: 2}, {From: 1, To: 2}, {From: 2, To: 3}}, 3}, {[]span.Span{{From: 0, To: 2}, {From: 2, To: 3}}, 2}, {[]span.Span{{From: 0, To: 1}, {From: 2, To: 3}}, 1}, {[]span.Span{{From: 2, To: 3}, {From: 0, To: 1}}, 1}, {[]span.Span{{From: 4, To: 4}, {From: 4, To: 4}, {From: 4, To: 4}}, 3},
		{[]span.Span{{From: 0, To: 9}, {From: 1, To: 2}, {From: 3, To: 4}, {From: 5, To: 6}}, 2}, {[]span.Span{{From: 0, To: 9}, {From: 1, To: 2}, {From: 2, To: 4}, {From: 5, To: 6}, {From: 6, To: 5}}, 3},
		{[]span.Span{{From: math.MinInt, To: math.MaxInt}, {From: math.MaxInt, To: math.MaxInt}, {From: math.MinInt, To: math.MinInt}, {From: math.MaxInt, To: math.MinInt}}, 2}, {[]span.Span{{From: -5, To: -3}, {From: -3, To: -1}, {From: -1, To: 0}}, 2},
	} {
		if n := span.Most(c.l); n != c.want {
			t.Errorf("P15.1: Most(%v): %d, want %d", c.l, n, c.want)
		}
	}
	s := chance.New(15)
	for range 5000 {
		var l []span.Span
		for range s.Below(12) {
			from := s.Below(12) - 1
			l = append(l, span.Span{From: from, To: from + s.Below(8) - 2})
		}
		before := slices.Clone(l)
		if n := span.Most(l); n != most(l, -4, 20) {
			t.Fatalf("P15.1: Most(%v): %d", l, n)
		}
		if !slices.Equal(l, before) {
			t.Fatalf("P15.3: Most has changed %v to %v", before, l)
		}
	}
}
