package sem

import (
	"hauberk/api"
	"hauberk/heap"
	"hauberk/num"
)

// unary makes what an operator makes of one kid; - and ~ as operators of two, with a constant.
func (m *maker) unary(op string, kid *api.Expr, t api.Type) {
	switch op {
	case "-":
		m.constant(heap.Value{})
		m.value(kid)
		m.operate("-", t)
	case "~":
		m.value(kid)
		m.constant(heap.Value{Num: num.Of(-1)})
		m.operate("^", t)
	case "!":
		m.value(kid)
		m.one(func(v heap.Value) heap.Value { return truth(!holds(v)) })
	case "&":
		// No Part is needed: a field's place is one already, and a variable is all of its block.
		m.place(kid)
	}
}

func (m *maker) binary(x *api.Expr) {
	if x.Op == "&&" || x.Op == "||" {
		m.either(x)
		return
	}
	m.values(x.Kids)
	if is, ok := m.comparisons[x.Op]; ok {
		m.two(func(a, b heap.Value) heap.Value { return truth(is(a, b)) })
		return
	}
	m.operate(x.Op, x.Type)
}

// either goes through its kids up to the first that settles it: one that holds settles ||, one that doesn't &&.
func (m *maker) either(x *api.Expr) {
	or := x.Op == "||"
	settled, end := &label{}, &label{}
	for i := range x.Kids {
		m.value(&x.Kids[i])
		m.jumpIf(or, settled)
	}
	m.constant(truth(!or))
	m.jump(end)
	m.put(settled)
	m.constant(truth(or))
	m.put(end)
}

// operate does an operator to the newest two values, of which a pointer is the first.
func (m *maker) operate(op string, t api.Type) {
	if t.Stars > 0 {
		m.move(t, signOf(op))
		return
	}
	o := m.operations[op]
	does := o.short
	if t.Base == api.Long {
		does = o.long
	}
	m.two(func(a, b heap.Value) heap.Value {
		n, _ := num.Do(does, a.Num, b.Num)
		return heap.Value{Num: n}
	})
}

func signOf(op string) int {
	if op == "-" {
		return -1
	}
	return 1
}
