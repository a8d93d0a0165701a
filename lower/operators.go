package lower

import (
	"math"

	"hauberk/api"
)

// operations are what operators do to two Ints, and to two Longs.
func operations() map[string][2]int {
	return map[string][2]int{
		"+":  {api.ADDW, api.ADD},
		"-":  {api.SUBW, api.SUB},
		"*":  {api.MULW, api.MUL},
		"/":  {api.DIVW, api.DIV},
		"%":  {api.REMW, api.REM},
		"<<": {api.SLLW, api.SLL},
		">>": {api.SRAW, api.SRA},
		"&":  {api.AND, api.AND},
		"^":  {api.XOR, api.XOR},
		"|":  {api.OR, api.OR},
	}
}

// comparisons are made of an operation: which it is, which of the two kids comes first, and how often it is then asked whether what came of it is 0.
func comparisons() map[string][3]int {
	return map[string][3]int{
		"<":  {api.SLT, 0, 0},
		">":  {api.SLT, 1, 0},
		">=": {api.SLT, 0, 1},
		"<=": {api.SLT, 1, 1},
		"==": {api.XOR, 0, 1},
		"!=": {api.XOR, 0, 2},
	}
}

// operation is that of an operator whose numbers are of a type.
func (p *program) operation(op string, t api.Type) int {
	if t.Base == api.Long {
		return p.operations[op][1]
	}
	return p.operations[op][0]
}

func (m *maker) unary(x *api.Expr) int {
	kid := &x.Kids[0]
	switch x.Op {
	case "-":
		return m.operate(m.operation("-", x.Type), m.constant(0), m.value(kid))
	case "~":
		return m.operate(api.XOR, m.value(kid), m.constant(math.MaxUint64))
	case "!":
		return m.isNothing(kid)
	case "&":
		return m.place(kid)
	}
	return m.placed(x)
}

func (m *maker) binary(x *api.Expr) int {
	switch {
	case x.Op == "&&" || x.Op == "||":
		return m.either(x)
	case isPointer(x.Type):
		return m.sum(x)
	case isPointer(x.Kids[0].Type):
		return m.againstNought(x)
	}
	two := [2]int{m.value(&x.Kids[0]), m.value(&x.Kids[1])}
	if c, ok := m.comparisons[x.Op]; ok {
		return m.compare(c, two)
	}
	return m.operate(m.operation(x.Op, x.Type), two[0], two[1])
}

// sum is a pointer and a number, or that less a number.
func (m *maker) sum(x *api.Expr) int {
	if x.Op == "-" {
		return m.moved(x.Kids, -1)
	}
	return m.moved(x.Kids, 1)
}

func (m *maker) compare(how [3]int, two [2]int) int {
	r := m.operate(how[0], two[how[1]], two[1-how[1]])
	for range how[2] {
		r = m.isZero(r)
	}
	return r
}

// isZero is 1, if a number is 0, else 0.
func (m *maker) isZero(r int) int { return m.operate(api.SLTU, r, m.constant(1)) }

// isNothing is 1, if what an expression comes to is 0, or to nothing, else 0.
func (m *maker) isNothing(x *api.Expr) int {
	r := m.value(x)
	if isPointer(x.Type) {
		return m.number(api.Ins{Op: api.MIs, A: r})
	}
	return m.isZero(r)
}

// againstNought holds a pointer against a nought, which is one of the two kids.
func (m *maker) againstNought(x *api.Expr) int {
	p := &x.Kids[0]
	if p.Kind == api.ENum {
		p = &x.Kids[1]
	}
	r := m.isNothing(p)
	if x.Op == "!=" {
		return m.isZero(r)
	}
	return r
}

// either is what one kid that settles it makes it, unless none of them does: one that holds settles ||, one that doesn't &&.
func (m *maker) either(x *api.Expr) int {
	or := x.Op == "||"
	end := &label{}
	r := m.constant(truth(or))
	for i := range x.Kids {
		m.leadIf(&x.Kids[i], or, end)
	}
	m.add(api.Ins{Op: api.MConst, Dst: r, N: truth(!or)})
	m.put(end)
	return r
}

func truth(is bool) uint64 {
	if is {
		return 1
	}
	return 0
}

// leadIf leads elsewhere, if whether an expression holds is what is asked for.
func (m *maker) leadIf(x *api.Expr, is bool, l *label) {
	var r int
	switch {
	case !is:
		r = m.isNothing(x)
	case isPointer(x.Type):
		r = m.isZero(m.isNothing(x))
	default:
		r = m.value(x)
	}
	m.lead(api.Ins{Op: api.MIf, A: r}, l)
}
