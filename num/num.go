// Package num is layer 1: numbers of 64 bits: see shared/doc/01-num.md.
package num

import (
	"math/bits"

	"hauberk/api"
)

// Do: an operation.
func Do(op int, a, b uint64) (uint64, api.Errno) {
	switch {
	case op < api.ADD || op > api.REMUW:
		return 0, api.ErrRange
	case op <= api.AND:
		return plain(op, a, b), api.OK
	case op <= api.REMU:
		return product(op, a, b), api.OK
	}
	return half(op, a, b), api.OK
}

// Narrow: the low bits, signed or not.
func Narrow(a uint64, bits int, signed bool) (uint64, api.Errno) {
	if bits < 1 || bits > 64 {
		return 0, api.ErrRange
	}
	gap := 64 - bits
	if signed {
		return uint64(int64(a<<gap) >> gap), api.OK
	}
	return a << gap >> gap, api.OK
}

// Of: a number's 64 bits.
func Of(n int) uint64 { return uint64(n) }

// Signed: what it means.
func Signed(a uint64) int { return int(a) }

// plain does ADD to AND.
func plain(op int, a, b uint64) uint64 {
	switch op {
	case api.ADD:
		return a + b
	case api.SUB:
		return a - b
	case api.SLL:
		return a << (b & 63)
	case api.SLT:
		return truth(int64(a) < int64(b))
	case api.SLTU:
		return truth(a < b)
	case api.XOR:
		return a ^ b
	case api.SRL:
		return a >> (b & 63)
	case api.SRA:
		return uint64(int64(a) >> (b & 63))
	case api.OR:
		return a | b
	}
	return a & b
}

// product does MUL to REMU.
func product(op int, a, b uint64) uint64 {
	switch op {
	case api.MUL:
		return a * b
	case api.MULH:
		return upperSigned(a, b)
	case api.MULHU:
		return upper(a, b)
	case api.DIV:
		return uint64(quotient(int64(a), int64(b)))
	case api.DIVU:
		return quotient(a, b)
	case api.REM:
		return uint64(rest(int64(a), int64(b)))
	}
	return rest(a, b)
}

// half does ADDW to REMUW: those of the low 32 bits.
func half(op int, a, b uint64) uint64 {
	x, y := uint32(a), uint32(b)
	switch op {
	case api.ADDW:
		return widen(x + y)
	case api.SUBW:
		return widen(x - y)
	case api.SLLW:
		return widen(x << (y & 31))
	case api.SRLW:
		return widen(x >> (y & 31))
	case api.SRAW:
		return widen(uint32(int32(x) >> (y & 31)))
	case api.MULW:
		return widen(x * y)
	case api.DIVW:
		return widen(uint32(quotient(int32(x), int32(y))))
	case api.DIVUW:
		return widen(quotient(x, y))
	case api.REMW:
		return widen(uint32(rest(int32(x), int32(y))))
	}
	return widen(rest(x, y))
}

// widen makes 64 bits of 32, signed also where these came of unsigned ones: so the machine keeps them.
func widen(x uint32) uint64 { return uint64(int64(int32(x))) }

func truth(is bool) uint64 {
	if is {
		return 1
	}
	return 0
}

// upper is the upper 64 bits of the unsigned product.
func upper(a, b uint64) uint64 {
	high, _ := bits.Mul64(a, b)
	return high
}

// upperSigned takes from the unsigned product what it has too much: a negative factor is 2^64 less than its bits, so the other one is in the upper half once too often.
func upperSigned(a, b uint64) uint64 {
	return upper(a, b) - copies(a)&b - copies(b)&a
}

// copies is the highest bit, at all 64 places.
func copies(a uint64) uint64 { return uint64(int64(a) >> 63) }

// quotient is that towards zero. (Of the lowest number and -1 Go's own wraps round to the lowest, as the machine's does.)
func quotient[T int32 | int64 | uint32 | uint64](a, b T) T {
	if b == 0 {
		return ^T(0)
	}
	return a / b
}

// rest is what quotient leaves of the first.
func rest[T int32 | int64 | uint32 | uint64](a, b T) T {
	if b == 0 {
		return a
	}
	return a % b
}
