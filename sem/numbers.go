package sem

import (
	"hauberk/api"
	"hauberk/heap"
	"hauberk/num"
)

// operation is what an operator does to numbers: of Ints, and of Longs.
type operation struct{ short, long int }

func operations() map[string]operation {
	return map[string]operation{
		"+":  {api.ADDW, api.ADD},
		"-":  {api.SUBW, api.SUB},
		"*":  {api.MULW, api.MUL},
		"/":  {api.DIVW, api.DIV},
		"%":  {api.REMW, api.REM},
		"<<": {api.SLLW, api.SLL},
		">>": {api.SRAW, api.SRA},
		"&":  {api.AND, api.AND},
		"^":  {api.XOR, api.XOR},
		"|":  {api.OR, api.OR},
	}
}

// comparison tells whether two values are so.
type comparison func(a, b heap.Value) bool

// comparisons are those of numbers; by == and != pointers are held against a nought, too: they are the same values just if both are to nothing.
func comparisons() map[string]comparison {
	return map[string]comparison{
		"==": func(a, b heap.Value) bool { return a == b },
		"!=": func(a, b heap.Value) bool { return a != b },
		"<":  func(a, b heap.Value) bool { return num.Signed(a.Num) < num.Signed(b.Num) },
		"<=": func(a, b heap.Value) bool { return num.Signed(a.Num) <= num.Signed(b.Num) },
		">":  func(a, b heap.Value) bool { return num.Signed(a.Num) > num.Signed(b.Num) },
		">=": func(a, b heap.Value) bool { return num.Signed(a.Num) >= num.Signed(b.Num) },
	}
}

// holds tells whether a value is neither 0 nor to nothing.
func holds(v heap.Value) bool { return v.Num != 0 || v.Ptr.Block != 0 }

func truth(is bool) heap.Value {
	if is {
		return heap.Value{Num: 1}
	}
	return heap.Value{}
}
