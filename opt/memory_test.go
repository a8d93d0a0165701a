package opt_test

import (
	"testing"

	"hauberk/api"
	"hauberk/fat"
	"hauberk/ins"
	"hauberk/opt"
)

// count tells how many instructions of a kind a function has.
func count(f api.Fn, kind func(api.Ins) bool) int {
	n := 0
	for _, i := range f.Code {
		if kind(i) {
			n++
		}
	}
	return n
}

func isLoad(i api.Ins) bool { return i.Op == api.FLoad }

func isXor(i api.Ins) bool { return i.Op == api.MOp && i.N == api.XOR }

// P14.1: what was stored is known where it is loaded, as long as nothing may have been stored there.
func TestMemory(t *testing.T) {
	xor := func(a, b int) api.Ins { return ins.Op(11, a, b, api.XOR) }
	top, other, slot, far := ins.Top(9, "v"), ins.Top(12, "w"), ins.Slot(9, 0), ins.Slot(9, 1)
	stored, loaded, is := ins.Store(9, 1, 8), ins.Load(10, 9, 8), xor(10, 1)
	write, read, same := ins.Write(9, 1, 2, 3, 4), ins.Read(9, 10, 13, 14, 15), xor(13, 2)
	for what, c := range map[string]struct {
		known bool // that both numbers of the XOR are one
		l     []api.Ins
	}{
		"stored":               {true, []api.Ins{top, stored, loaded, is}},
		"loaded twice":         {true, []api.Ins{ins.Load(9, 0, 8), ins.Load(10, 0, 8), xor(9, 10)}},
		"loaded by two sizes":  {false, []api.Ins{ins.Load(9, 0, 8), ins.Load(10, 0, 4), xor(9, 10)}},
		"fewer bytes":          {true, []api.Ins{top, stored, ins.Load(10, 9, 4), ins.Narrow(12, 1, 4), xor(10, 12)}},
		"far fewer bytes":      {true, []api.Ins{top, stored, ins.Load(10, 9, 1), ins.Narrow(12, 1, 1), xor(10, 12)}},
		"more bytes":           {false, []api.Ins{top, ins.Store(9, 1, 4), loaded, is}},
		"stored narrow":        {false, []api.Ins{top, ins.Store(9, 1, 1), ins.Load(10, 9, 1), is}},
		"of other places":      {false, []api.Ins{top, other, stored, ins.Load(10, 12, 8), is}},
		"stored elsewhere":     {false, []api.Ins{top, other, stored, ins.Store(12, 2, 8), loaded, is}},
		"stored there":         {false, []api.Ins{top, stored, ins.Store(9, 2, 1), loaded, is}},
		"a call":               {false, []api.Ins{top, stored, ins.Call("show", []int{0}, nil), loaded, is}},
		"a free":               {false, []api.Ins{top, stored, ins.Free(2, 3, 4, 5, 6), loaded, is}},
		"a block":              {false, []api.Ins{top, stored, ins.Malloc(2, 12, 13, 14, 15, 16), loaded, is}},
		"a slot that is clear": {false, []api.Ins{top, stored, ins.Clear(0), loaded, is}},
		"the shadow":           {true, []api.Ins{top, stored, write, loaded, is}},
		"a check, and bytes":   {true, []api.Ins{top, stored, checks(8), ins.Get(0), ins.Put(0), loaded, is}},
		"another number there": {false, []api.Ins{top, stored, ins.Get(1), loaded, is}},
		// Slots are apart from each other, and from new blocks; not from what is stored anywhere.
		"a slot":                     {true, []api.Ins{slot, stored, loaded, is}},
		"two slots":                  {true, []api.Ins{slot, ins.Slot(12, 1), stored, ins.Store(12, 2, 8), loaded, is}},
		"one slot, and further on":   {false, []api.Ins{far, stored, ins.Const(12, 8), ins.Op(12, 9, 12, api.ADD), ins.Store(12, 2, 8), loaded, is}},
		"one slot, and in it":        {false, []api.Ins{far, stored, ins.Const(12, 4), ins.Op(12, 9, 12, api.ADD), ins.Store(12, 2, 4), loaded, is}},
		"more than a slot has":       {false, []api.Ins{far, ins.Slot(12, 0), ins.Const(13, 4), ins.Op(12, 12, 13, api.ADD), stored, ins.Store(12, 2, 8), loaded, is}},
		"behind a slot":              {false, []api.Ins{far, ins.Slot(12, 0), ins.Const(13, 16), ins.Op(12, 12, 13, api.ADD), stored, ins.Store(12, 2, 8), loaded, is}},
		"a slot, and a param":        {false, []api.Ins{slot, stored, ins.Store(7, 2, 8), loaded, is}},
		"a slot, and a variable":     {false, []api.Ins{slot, other, stored, ins.Store(12, 2, 8), loaded, is}},
		"a variable, and a slot":     {false, []api.Ins{slot, other, ins.Store(12, 1, 8), ins.Store(9, 2, 8), ins.Load(10, 12, 8), is}},
		"a slot, and a block":        {true, []api.Ins{slot, stored, ins.Malloc(2, 12, 13, 14, 15, 16), loaded, is}},
		"a slot, and a call":         {false, []api.Ins{slot, stored, ins.Call("show", []int{0}, nil), loaded, is}},
		"a slot, and a free":         {false, []api.Ins{slot, stored, ins.Free(2, 3, 4, 5, 6), loaded, is}},
		"a slot that is made clear":  {false, []api.Ins{slot, stored, ins.Clear(0), loaded, is}},
		"another one is made clear":  {true, []api.Ins{slot, stored, ins.Clear(1), loaded, is}},
		"both ways, on neither":      {true, []api.Ins{slot, stored, ins.If(7, 4), ins.Put(7), loaded, is}},
		"both ways, on one":          {false, []api.Ins{slot, stored, ins.If(7, 4), ins.Store(8, 2, 8), loaded, is}},
		"both ways, on one, a slot":  {false, []api.Ins{slot, stored, ins.If(7, 4), ins.Store(9, 2, 8), loaded, is}},
		"both ways, the other slot":  {true, []api.Ins{slot, ins.Slot(12, 1), stored, ins.If(7, 5), ins.Store(12, 2, 8), loaded, is}},
		"both ways, on one, a block": {false, []api.Ins{top, stored, ins.If(7, 4), ins.Malloc(2, 12, 13, 14, 15, 16), loaded, is}},
		// The shadow.
		"written":                {true, []api.Ins{top, write, read, same}},
		"the first of the four":  {true, []api.Ins{top, write, read, xor(10, 1)}},
		"the last of the four":   {true, []api.Ins{top, write, read, xor(15, 4)}},
		"another of the four":    {false, []api.Ins{top, write, read, xor(13, 3)}},
		"read twice":             {true, []api.Ins{ins.Read(0, 9, 10, 12, 13), ins.Read(0, 14, 15, 16, 17), xor(16, 12)}},
		"read elsewhere":         {false, []api.Ins{ins.Read(0, 9, 10, 12, 13), ins.Read(1, 14, 15, 16, 17), xor(16, 12)}},
		"written elsewhere":      {false, []api.Ins{top, other, write, ins.Write(12, 4, 3, 2, 1), read, same}},
		"a store there":          {true, []api.Ins{top, write, stored, read, same}},
		"written, then clear":    {false, []api.Ins{slot, write, ins.Clear(0), read, same}},
		"written, then a block":  {false, []api.Ins{top, write, ins.Malloc(5, 12, 16, 17, 18, 19), read, same}},
		"written, then freed":    {false, []api.Ins{top, write, ins.Free(3, 4, 5, 6, 7), read, same}},
		"written, then a call":   {false, []api.Ins{top, write, ins.Call("show", []int{0}, nil), read, same}},
		"read over the address":  {true, []api.Ins{top, ins.Move(8, 9), ins.Read(9, 9, 10, 12, 13), ins.Read(8, 14, 15, 16, 17), xor(14, 9)}},
		"read over, the second":  {true, []api.Ins{top, ins.Move(8, 9), ins.Read(9, 9, 10, 12, 13), ins.Read(8, 14, 15, 16, 17), xor(15, 10)}},
		"read at it, the second": {false, []api.Ins{top, ins.Read(9, 9, 10, 12, 13), ins.Read(9, 14, 15, 16, 17), xor(15, 10)}},
		"read at what was read":  {false, []api.Ins{top, ins.Read(9, 9, 10, 12, 13), ins.Read(9, 14, 15, 16, 17), xor(14, 9)}},
		"written of the address": {true, []api.Ins{top, ins.Write(9, 9, 9, 9, 9), read, xor(15, 9)}},
	} {
		f := fn("f", []int{0, 1, 2, 3, 4, 5, 6, 7, 8}, append(c.l, ins.Put(11), ins.Ret(11))...)
		g := opt.Fn(f)
		shaped(t, f, g)
		if known := count(g, isXor) == 0; known != c.known {
			t.Errorf("P14.1: %s: %v: %v", what, known, g.Code)
		}
		called(t, f, g)
	}
}

// P14.1: a load that nothing asks for stays, since it may be a fault; but not in a slot.
func TestLoads(t *testing.T) {
	by := func(n uint64) []api.Ins { return []api.Ins{ins.Const(12, n), ins.Op(9, 9, 12, api.ADD)} }
	for what, c := range map[string]struct {
		left int
		l    []api.Ins
	}{
		"of a param":            {1, []api.Ins{ins.Load(10, 0, 8)}},
		"of a variable":         {1, []api.Ins{ins.Top(9, "w"), ins.Load(10, 9, 8)}},
		"of a new block":        {1, []api.Ins{ins.Const(0, 8), ins.Malloc(0, 9, 10, 11, 12, 13), ins.Load(10, 9, 8)}},
		"of a slot":             {0, []api.Ins{ins.Slot(9, 1), ins.Load(10, 9, 8)}},
		"its last bytes":        {0, append([]api.Ins{ins.Slot(9, 1)}, append(by(16), ins.Load(10, 9, 4))...)},
		"behind its last bytes": {1, append([]api.Ins{ins.Slot(9, 1)}, append(by(16), ins.Load(10, 9, 8))...)},
		"ahead of it":           {1, append([]api.Ins{ins.Slot(9, 1)}, append(by(minus(8)), ins.Load(10, 9, 8))...)},
		"far from it":           {1, append([]api.Ins{ins.Slot(9, 1)}, append(by(1<<63-8), ins.Load(10, 9, 8))...)},
		"out of line":           {1, append([]api.Ins{ins.Slot(9, 1)}, append(by(2), ins.Load(10, 9, 4))...)},
		"asked for":             {1, []api.Ins{ins.Slot(9, 1), ins.Load(10, 9, 8), ins.Put(10)}},
		"known":                 {0, []api.Ins{ins.Slot(9, 1), ins.Store(9, 0, 8), ins.Load(10, 9, 8), ins.Put(10)}},
		"known of a variable":   {1, []api.Ins{ins.Top(9, "v"), ins.Store(9, 0, 8), ins.Load(10, 9, 8), ins.Put(10)}},
		"twice":                 {2, []api.Ins{ins.Top(9, "v"), ins.Load(10, 9, 1), ins.Load(11, 9, 1), ins.Put(10), ins.Put(11)}},
		"in a loop":             {1, []api.Ins{ins.Slot(9, 1), ins.Load(10, 9, 8), ins.Put(10), ins.Get(11), ins.If(11, 1)}},
	} {
		f := fn("f", []int{0}, append(c.l, ins.Ret(0))...)
		g := opt.Fn(f)
		shaped(t, f, g)
		if n := count(g, isLoad); n != c.left {
			t.Errorf("P14.1: %s: %d loads, want %d: %v", what, n, c.left, g.Code)
		}
		called(t, f, g)
	}
}

// P14.1: what is known of slots in a loop: one to which nothing is stored there is what it was ahead of it.
func TestSlots(t *testing.T) {
	for what, c := range map[string]struct {
		left int // loads: of the slot that counts, ahead of its store and, maybe, behind it; maybe of the one that tells how far
		l    []api.Ins
	}{
		"apart":            {1, nil},
		"stored to":        {2, []api.Ins{ins.Const(15, 8), ins.Op(15, 6, 15, api.ADD), ins.Store(15, 9, 8)}},
		"stored somewhere": {3, []api.Ins{ins.Get(15), ins.Op(15, 6, 15, api.ADD), ins.Store(15, 9, 1)}},
		"called":           {3, []api.Ins{ins.Call("show", []int{11}, nil)}},
		"clear":            {2, []api.Ins{ins.Clear(1), ins.Store(6, 10, 8), ins.Clear(1)}},
		"the other clear":  {1, []api.Ins{ins.Clear(0), ins.Store(5, 11, 8)}},
	} {
		l := []api.Ins{ins.Slot(5, 0), ins.Slot(6, 1), ins.Const(9, 1), ins.Const(10, 5), ins.Store(5, 7, 8), ins.Store(6, 10, 8), ins.Load(11, 5, 8), ins.Op(11, 11, 9, api.ADD), ins.Store(5, 11, 8)}
		l = append(append(l, c.l...), ins.Load(12, 6, 8), ins.Load(13, 5, 8), ins.Op(14, 13, 12, api.SLT), ins.If(14, 6), ins.Put(13), ins.Ret(12))
		f := fn("f", nil, l...)
		f.Slots = []int{8, 16}
		g := opt.Fn(f)
		shaped(t, f, g)
		if n := count(g, isLoad); n != c.left {
			t.Errorf("P14.1: %s: %d loads, want %d: %v", what, n, c.left, g.Code)
		}
		called(t, f, g)
	}
}

// P14.1: what is stored by way of an address that isn't known may be stored anywhere; so may what a callee stores.
func TestAnywhere(t *testing.T) {
	for _, off := range []string{"\x00", "\x08", "\x10", "\x20"} {
		for _, to := range []string{"slot", "w"} {
			u := units(fn("main", nil, append(pointer(to),
				ins.Const(0, 'a'), ins.Store(5, 0, 8), ins.Get(1), ins.Op(1, 5, 1, api.ADD), ins.Const(2, 'b'), ins.Store(1, 2, 8), ins.Load(3, 5, 8), ins.Put(3),
				ins.Const(0, 'c'), ins.Store(5, 0, 8), ins.Call("store", []int{5, 2}, nil), ins.Load(3, 5, 8), ins.Put(3),
				ins.Write(5, 0, 0, 0, 0), ins.Write(1, 2, 2, 2, 2), ins.Read(5, 3, 10, 11, 12), ins.Put(10), ins.Ret(12))...),
				plain("store", []int{1, 2}, ins.Store(1, 2, 8), ins.Ret()))
			want := "abc"
			if off == "\x00" {
				want = "bbb"
			}
			if r := as(t, to, u, better(t, u), []byte(off), plenty); string(r.Out) != want {
				t.Errorf("%s, %q: %v", to, off, r)
			}
		}
	}
	// What was stored ahead of a new block's being there is gone, whatever it is known to be.
	u := units(plain("main", nil, ins.Const(0, 4160), ins.Const(1, 'x'), ins.Store(0, 1, 8), ins.Load(2, 0, 8), ins.Put(2), ins.Const(3, 8), ins.Malloc(3, 4, 5, 6, 7, 8), ins.Malloc(3, 4, 5, 6, 7, 8), ins.Load(2, 0, 8), ins.Put(2), ins.Op(0, 4, 0, api.SUB), ins.Ret(0)))
	if r := as(t, "a new block", u, better(t, u), nil, plenty); string(r.Out) != "x\x00" {
		t.Errorf("a new block: %v", r)
	}
	if r := fat.Run(better(t, u), nil, plenty); r.Code != 0 {
		t.Errorf("a new block stands elsewhere: %v", r)
	}
}
