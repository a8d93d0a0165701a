package mid_test

import (
	"sort"
	"strings"

	"hauberk/api"
)

// rows tells, in the words of the chapter and of api's remarks, what each instruction uses. D, A, B: registers, a number (n), a pointer (p), any (x), one that with another is of one kind (m), a pointer just with Size 8 (s), perhaps none (?). The rest by names.
var rows = map[int]string{
	api.MConst:  "D:n N:any",
	api.MMove:   "D:m A:m",
	api.MOp:     "D:n A:n B:n N:operation",
	api.MNarrow: "D:n A:n Size:width",
	api.MNull:   "D:p",
	api.MTop:    "D:p Name:variable",
	api.MLocal:  "D:p N:slot",
	api.MAdd:    "D:p A:p B:n",
	api.MPart:   "D:p A:p N:offset Size:room",
	api.MIs:     "D:n A:p",
	api.MLoad:   "D:s A:p Size:width",
	api.MStore:  "A:p B:s Size:width",
	api.MClear:  "N:slot",
	api.MMalloc: "D:p A:n",
	api.MFree:   "A:p",
	api.MCall:   "D:? Name:function Args:any",
	api.MRet:    "A:?",
	api.MJump:   "To:place",
	api.MIf:     "A:n To:place",
	api.MPut:    "A:n",
	api.MGet:    "D:n",
	api.MExit:   "A:n",
}

// used is what a row says of a part of its instruction; empty, if nothing.
func used(op int, part string) string {
	for _, w := range strings.Fields(rows[op]) {
		if name, how, _ := strings.Cut(w, ":"); name == part {
			return how
		}
	}
	return ""
}

// kind is that of a register; 0, if it isn't there.
func kind(f api.Fn, r int) int {
	if r < 0 || r >= len(f.Kinds) {
		return 0
	}
	return f.Kinds[r]
}

func modelRegister(f api.Fn, i api.Ins, part string, r int) bool {
	k := kind(f, r)
	switch used(i.Op, part) {
	case "":
		return r == 0
	case "n":
		return k == 1
	case "p":
		return k == 2
	case "m":
		return k != 0 && kind(f, i.Dst) == kind(f, i.A)
	case "s":
		return k == 1 || k == 2 && i.Size == 8
	case "?":
		return r == -1 || k != 0
	}
	panic(part)
}

func modelN(f api.Fn, i api.Ins) bool {
	switch used(i.Op, "N") {
	case "any":
		return true
	case "operation":
		return 0 < i.N && i.N < 28
	case "slot":
		for k := range f.Slots {
			if i.N == uint64(k) {
				return true
			}
		}
		return false
	case "offset":
		return i.N>>22 == 0
	}
	return i.N == 0
}

func modelSize(i api.Ins) bool {
	switch used(i.Op, "Size") {
	case "width":
		return i.Size == 1 || i.Size == 4 || i.Size == 8
	case "room":
		return 0 < i.Size && i.Size <= 4194304
	}
	return i.Size == 0
}

// answered are the registers that a function answers by.
func answered(f api.Fn) []int {
	var l []int
	for _, i := range f.Code {
		if i.Op == api.MRet && i.A != -1 {
			l = append(l, i.A)
		}
	}
	return l
}

// modelCall: what is asked of a call of that function.
func modelCall(f, g api.Fn, i api.Ins) bool {
	if len(i.Args) != len(g.Params) {
		return false
	}
	for k, r := range i.Args {
		if kind(f, r) == 0 || kind(f, r) != kind(g, g.Params[k]) {
			return false
		}
	}
	for _, a := range answered(g) {
		if i.Dst != -1 && kind(g, a) != kind(f, i.Dst) {
			return false
		}
	}
	return true
}

func modelName(u api.Unit, f api.Fn, i api.Ins) bool {
	switch used(i.Op, "Name") {
	case "variable":
		for _, t := range u.Tops {
			if t.Name == i.Name {
				return true
			}
		}
		return false
	case "function":
		for _, g := range u.Fns {
			if g.Name == i.Name {
				return modelCall(f, g, i)
			}
		}
		return false
	}
	return i.Name == ""
}

func modelIns(u api.Unit, f api.Fn, i api.Ins) bool {
	if rows[i.Op] == "" || len(i.Outs) > 0 || used(i.Op, "Args") == "" && len(i.Args) > 0 {
		return false
	}
	if used(i.Op, "To") == "" && i.To != 0 || i.To < 0 || i.To >= len(f.Code) {
		return false
	}
	return modelRegister(f, i, "D", i.Dst) && modelRegister(f, i, "A", i.A) && modelRegister(f, i, "B", i.B) && modelN(f, i) && modelSize(i) && modelName(u, f, i)
}

func modelFn(u api.Unit, f api.Fn) bool {
	for _, k := range f.Kinds {
		if k != 1 && k != 2 {
			return false
		}
	}
	for _, s := range f.Slots {
		if s <= 0 || s > 65536 {
			return false
		}
	}
	params := append([]int{}, f.Params...)
	sort.Ints(params)
	for k, r := range params {
		if kind(f, r) == 0 || k > 0 && params[k-1] == r {
			return false
		}
	}
	for _, i := range f.Code {
		if !modelIns(u, f, i) {
			return false
		}
	}
	for _, a := range answered(f) {
		if kind(f, a) != kind(f, answered(f)[0]) {
			return false
		}
	}
	return len(f.Code) > 0 && (f.Code[len(f.Code)-1].Op == api.MRet || f.Code[len(f.Code)-1].Op == api.MJump || f.Code[len(f.Code)-1].Op == api.MExit)
}

// modelGood is what Good should be, said in another way.
func modelGood(u api.Unit) bool {
	mains := 0
	for k, f := range u.Fns {
		for _, g := range u.Fns[:k] {
			if f.Name == g.Name {
				return false
			}
		}
		if f.Name == "" || !modelFn(u, f) {
			return false
		}
		if f.Name == "main" && len(f.Params) == 0 {
			mains++
		}
	}
	for k, t := range u.Tops {
		for _, s := range u.Tops[:k] {
			if s.Name == t.Name {
				return false
			}
		}
		if t.Name == "" || t.Size < 0 || t.Size > 4194304 {
			return false
		}
	}
	return mains == 1
}
