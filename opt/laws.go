package opt

import (
	"math"

	"hauberk/api"
	"hauberk/num"
)

// operation is what two numbers make.
func (n *numbers) operation(op, a, b int) int {
	x, first := n.told(a)
	y, second := n.told(b)
	if first && second {
		c, _ := num.Do(op, x, y)
		return n.constant(c)
	}
	if turns(op) && (first || !second && a > b) {
		a, b = b, a
	}
	if k, ok := n.simple(op, a, b); ok {
		return k
	}
	return n.of(made{op: api.MOp, n: uint64(op), a: a, b: b})
}

// turns tells whether an operation makes the same of both, in whichever order: a constant comes last.
func turns(op int) bool {
	switch op {
	case api.ADD, api.XOR, api.OR, api.AND, api.MUL, api.MULH, api.MULHU, api.ADDW, api.MULW:
		return true
	}
	return false
}

// simple is what two numbers make, where less than the operation tells it.
func (n *numbers) simple(op, a, b int) (int, bool) {
	c, constant := n.told(b)
	root, off := n.split(a)
	other, further := n.split(b)
	switch {
	case constant && op == api.ADD:
		return n.plus(a, c), true
	case constant && op == api.SUB:
		return n.plus(a, -c), true
	case constant && neutral(op, c):
		return a, true
	case constant && c == 0 && (op == api.MUL || op == api.AND):
		return b, true
	case op == api.SUB && root == other:
		return n.constant(off - further), true
	case op == api.XOR && a == b:
		return n.constant(0), true
	case op == api.SLTU:
		return n.less(a, b)
	}
	return 0, false
}

// neutral tells whether an operation leaves each number as it is, if the second one is that.
func neutral(op int, c uint64) bool {
	switch op {
	case api.OR, api.XOR, api.SLL, api.SRL, api.SRA:
		return c == 0
	case api.MUL, api.DIV, api.DIVU:
		return c == 1
	case api.AND:
		return c == math.MaxUint64
	}
	return false
}

// less is SLTU.
func (n *numbers) less(a, b int) (int, bool) {
	root, off := n.split(a)
	other, further := n.split(b)
	x, first := n.told(a)
	y, second := n.told(b)
	inner, denies := n.denied(a)
	switch {
	case a == b, second && y == 0, second && y == 1 && n.something(a):
		return n.constant(0), true
	case first && x == 0 && n.something(b):
		return n.constant(1), true
	case second && y == 1 && denies && n.width(inner) == truth:
		return inner, true
	case root == other && n.isAddress(a) && n.isAddress(b):
		c, _ := num.Do(api.SLTU, off+low, further+low)
		return n.constant(c), true
	}
	return 0, false
}

// denied is the number of which one tells whether it is 0, by being 1 or 0.
func (n *numbers) denied(k int) (int, bool) {
	m := n.made[k]
	if m.op != api.MOp || m.n != api.SLTU {
		return 0, false
	}
	c, ok := n.told(m.b)
	return m.a, ok && c == 1
}

// asked is the number of which one is 0 just where that is, too, having been made of it.
func (n *numbers) asked(k int) (int, bool) {
	if inner, ok := n.denied(k); ok {
		return n.denied(inner)
	}
	m := n.made[k]
	if m.op != api.MOp || m.n != api.SLTU {
		return 0, false
	}
	c, ok := n.told(m.a)
	return m.b, ok && c == 0
}

// Addresses of what stands in memory are not below low; what is fewer bytes than high from one doesn't come round to 0.
const (
	low  = 4096
	high = 1 << 40
)

// isAddress tells whether a number is near what stands in memory, so that it is to the address as its distance is to 0, and isn't 0 itself.
func (n *numbers) isAddress(k int) bool {
	root, off := n.split(k)
	m := n.made[root]
	stands := m.op == api.FSlot || m.op == api.FTop || m.op == api.FMalloc && m.b == value
	return stands && num.Signed(off) > -low && num.Signed(off) < high
}

// something tells whether a number can't be 0.
func (n *numbers) something(k int) bool {
	m := n.made[k]
	return n.isAddress(k) || m.op == api.FKey || m.op == api.FMalloc && m.b == key
}

// narrowed is a number's low bytes, signed.
func (n *numbers) narrowed(k, size int) int {
	if c, ok := n.told(k); ok {
		c, _ = num.Narrow(c, 8*size, true)
		return n.constant(c)
	}
	if n.width(k) <= size {
		return k
	}
	if m := n.made[k]; m.op == api.MNarrow {
		k = m.a
	}
	return n.of(made{op: api.MNarrow, n: uint64(size), a: k})
}

// truth is the width of what is 0 or 1.
const truth = 0

// width is of how many low bytes a number is made, signed.
func (n *numbers) width(k int) int {
	m := n.made[k]
	switch {
	case m.op == api.MNarrow || m.op == api.FLoad:
		return int(m.n)
	case m.op == api.MOp && (m.n == api.SLT || m.n == api.SLTU):
		return truth
	case m.op == api.MOp && m.n >= api.ADDW:
		return 4
	}
	return 8
}
