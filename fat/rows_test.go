package fat_test

import (
	"slices"
	"strconv"
	"strings"

	"hauberk/api"
)

// rows tells, in the words of the chapter and of api's remarks, what each instruction uses: D, A, B: registers; Args, Outs: how many; the rest by names.
var rows = map[int]string{
	api.MConst:  "D: N:any",
	api.MMove:   "D: A:",
	api.MOp:     "D: A: B: N:operation",
	api.MNarrow: "D: A: Size:width",
	api.MJump:   "To:",
	api.MIf:     "A: To:",
	api.MPut:    "A:",
	api.MGet:    "D:",
	api.MExit:   "A:",
	api.FTop:    "D: Name:variable",
	api.FSlot:   "D: N:slot",
	api.FLock:   "D:",
	api.FKey:    "D:",
	api.FCheck:  "Args:5 Size:room",
	api.FLoad:   "D: A: Size:width",
	api.FStore:  "A: B: Size:width",
	api.FRead:   "A: Outs:4",
	api.FWrite:  "A: Args:4",
	api.FClear:  "N:slot",
	api.FMalloc: "A: Outs:5",
	api.FFree:   "Args:5",
	api.FCall:   "Name:function Args:any Outs:any",
	api.FRet:    "Args:any",
}

// used is what a row says of a part of its instruction, and whether it says anything.
func used(op int, part string) (string, bool) {
	for _, w := range strings.Fields(rows[op]) {
		if name, how, _ := strings.Cut(w, ":"); name == part {
			return how, true
		}
	}
	return "", false
}

func there(f api.Fn, r int) bool { return 0 <= r && r < len(f.Kinds) }

func modelRegister(f api.Fn, i api.Ins, part string, r int) bool {
	if _, ok := used(i.Op, part); ok {
		return there(f, r)
	}
	return r == 0
}

func modelList(f api.Fn, i api.Ins, part string, l []int) bool {
	how, _ := used(i.Op, part)
	if how != "any" && how != strconv.Itoa(len(l)) && (how != "" || len(l) > 0) {
		return false
	}
	for k, r := range l {
		if !there(f, r) || part == "Outs" && slices.Contains(l[:k], r) {
			return false
		}
	}
	return true
}

func modelN(f api.Fn, i api.Ins) bool {
	switch how, _ := used(i.Op, "N"); how {
	case "any":
		return true
	case "operation":
		return 0 < i.N && i.N < 28
	case "slot":
		for k := range f.Slots {
			if i.N == uint64(k) {
				return true
			}
		}
		return false
	}
	return i.N == 0
}

func modelSize(i api.Ins) bool {
	switch how, _ := used(i.Op, "Size"); how {
	case "width":
		return i.Size == 1 || i.Size == 4 || i.Size == 8
	case "room":
		return 0 < i.Size && i.Size <= 4194304
	}
	return i.Size == 0
}

func modelTo(f api.Fn, i api.Ins) bool {
	if _, ok := used(i.Op, "To"); ok {
		return 0 <= i.To && i.To < len(f.Code)
	}
	return i.To == 0
}

// modelCall: what is asked of a call of that function.
func modelCall(g api.Fn, i api.Ins) bool {
	for _, j := range g.Code {
		if j.Op == api.FRet && len(j.Args) != len(i.Outs) {
			return false
		}
	}
	return len(i.Args) == len(g.Params)
}

func modelName(u api.Unit, i api.Ins) bool {
	switch how, _ := used(i.Op, "Name"); how {
	case "variable":
		return slices.ContainsFunc(u.Tops, func(t api.Top) bool { return t.Name == i.Name })
	case "function":
		return slices.ContainsFunc(u.Fns, func(g api.Fn) bool { return g.Name == i.Name && modelCall(g, i) })
	}
	return i.Name == ""
}

func modelIns(u api.Unit, f api.Fn, i api.Ins) bool {
	return rows[i.Op] != "" && modelRegister(f, i, "D", i.Dst) && modelRegister(f, i, "A", i.A) && modelRegister(f, i, "B", i.B) &&
		modelList(f, i, "Args", i.Args) && modelList(f, i, "Outs", i.Outs) && modelN(f, i) && modelSize(i) && modelTo(f, i) && modelName(u, i)
}

func modelFn(u api.Unit, f api.Fn) bool {
	for _, k := range f.Kinds {
		if k != 1 {
			return false
		}
	}
	for _, s := range f.Slots {
		if s <= 0 || s > 65536 {
			return false
		}
	}
	for k, r := range f.Params {
		if !there(f, r) || slices.Contains(f.Params[:k], r) {
			return false
		}
	}
	for _, i := range f.Code {
		if !modelIns(u, f, i) {
			return false
		}
	}
	return len(f.Code) > 0 && slices.Contains([]int{api.FRet, api.MJump, api.MExit}, f.Code[len(f.Code)-1].Op)
}

// modelGood is what Good should be, said in another way.
func modelGood(u api.Unit) bool {
	mains := 0
	for k, f := range u.Fns {
		if f.Name == "" || slices.ContainsFunc(u.Fns[:k], func(g api.Fn) bool { return g.Name == f.Name }) || !modelFn(u, f) {
			return false
		}
		if f.Name == "main" && len(f.Params) == 0 {
			mains++
		}
	}
	for k, t := range u.Tops {
		if t.Name == "" || t.Size < 0 || t.Size > 4194304 || slices.ContainsFunc(u.Tops[:k], func(s api.Top) bool { return s.Name == t.Name }) {
			return false
		}
	}
	return mains == 1
}
