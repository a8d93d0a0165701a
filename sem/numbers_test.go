package sem_test

import (
	"encoding/binary"
	"math"
	"math/big"
	"testing"

	"hauberk/api"
	"hauberk/sem"
)

// width is a type of numbers, and how many bits these have.
type width struct {
	name string
	bits uint
}

var widths = []width{{"char", 8}, {"int", 32}, {"long", 64}}

// some are numbers at the ends of what 8, 32 and 64 bits may be, around 0, and between.
var some = []int64{
	math.MinInt64, math.MinInt64 + 1, -1 << 40, math.MinInt32 - 1, math.MinInt32, -65536, -129, -128, -127, -7, -2, -1,
	0, 1, 2, 3, 7, 31, 32, 33, 63, 64, 127, 128, 255, math.MaxInt32 - 1, math.MaxInt32, math.MaxInt32 + 1, math.MaxUint32, 1 << 32, 1<<32 + 5, 1 << 62, math.MaxInt64,
}

// held is a number that has so many bits, signed.
func held(x *big.Int, bits uint) *big.Int {
	around, half := new(big.Int).Lsh(big.NewInt(1), bits), new(big.Int).Lsh(big.NewInt(1), bits-1)
	r := new(big.Int).Add(x, half)
	return r.Mod(r, around).Sub(r, half)
}

func truth(is bool) *big.Int {
	if is {
		return big.NewInt(1)
	}
	return new(big.Int)
}

// binary2 is what an operator makes of numbers without end, of which what comes of it has so many bits.
func binary2(op string, a, b *big.Int, bits uint) *big.Int {
	r, c := new(big.Int), a.Cmp(b)
	switch op {
	case "+":
		r.Add(a, b)
	case "-":
		r.Sub(a, b)
	case "*":
		r.Mul(a, b)
	case "/":
		if b.Sign() == 0 {
			return big.NewInt(-1)
		}
		r.Quo(a, b)
	case "%":
		if b.Sign() == 0 {
			return a
		}
		r.Rem(a, b)
	case "&":
		r.And(a, b)
	case "|":
		r.Or(a, b)
	case "^":
		r.Xor(a, b)
	case "<<", ">>":
		by := uint(new(big.Int).And(b, big.NewInt(int64(bits-1))).Uint64())
		if op == "<<" {
			r.Lsh(a, by)
		} else {
			r.Rsh(a, by)
		}
	case "<":
		r = truth(c < 0)
	case "<=":
		r = truth(c <= 0)
	case ">":
		r = truth(c > 0)
	case ">=":
		r = truth(c >= 0)
	case "==":
		r = truth(c == 0)
	case "!=":
		r = truth(c != 0)
	}
	return held(r, bits)
}

// told are the functions by which programs here take in and put out numbers of eight bytes.
const told = "long get() { long x = 0; int i = 0; while (i < 64) { x = x | (long) getchar() << i; i = i + 8; } return x; } void tell(long x) { int i = 0; while (i < 64) { putchar(x >> i); i = i + 8; } } "

// asked is a program's answer, of 8 bytes, to numbers.
func asked(t *testing.T, p api.Program, l ...int64) int64 {
	t.Helper()
	var input []byte
	for _, n := range l {
		input = binary.LittleEndian.AppendUint64(input, uint64(n))
	}
	r := sem.Run(p, input, plenty)
	if r.State != api.Exit || len(r.Out) != 8 {
		t.Fatalf("P9.1: of %v: %v", l, r)
	}
	return int64(binary.LittleEndian.Uint64(r.Out))
}

// P9.1: operators of two numbers of all types.
func TestBinary(t *testing.T) {
	for _, op := range []string{"+", "-", "*", "/", "%", "&", "|", "^", "<<", ">>", "<", "<=", ">", ">=", "==", "!="} {
		for _, x := range widths {
			for _, y := range widths {
				p := checked(t, told+"int main() { "+x.name+" a = get(); "+y.name+" b = get(); tell(a "+op+" b); }")
				bits := max(x.bits, y.bits, 32)
				if op == "<<" || op == ">>" {
					bits = max(x.bits, 32)
				}
				for _, m := range some {
					for _, n := range some {
						a, b := held(big.NewInt(m), x.bits), held(big.NewInt(n), y.bits)
						if !a.IsInt64() || a.Int64() != m || !b.IsInt64() || b.Int64() != n {
							continue
						}
						if got, want := asked(t, p, m, n), binary2(op, a, b, bits); got != want.Int64() {
							t.Fatalf("P9.1: %s %d %s %s %d: %d, want %d", x.name, m, op, y.name, n, got, want)
						}
					}
				}
			}
		}
	}
}

// P9.1: operators of one number, casts, and numbers as conditions.
func TestUnary(t *testing.T) {
	for _, x := range widths {
		wide := max(x.bits, 32)
		for text, want := range map[string]func(a *big.Int) *big.Int{
			"-a":          func(a *big.Int) *big.Int { return held(new(big.Int).Neg(a), wide) },
			"~a":          func(a *big.Int) *big.Int { return new(big.Int).Not(a) },
			"!a":          func(a *big.Int) *big.Int { return truth(a.Sign() == 0) },
			"!!a":         func(a *big.Int) *big.Int { return truth(a.Sign() != 0) },
			"a && 1":      func(a *big.Int) *big.Int { return truth(a.Sign() != 0) },
			"a || 0":      func(a *big.Int) *big.Int { return truth(a.Sign() != 0) },
			"1 && a":      func(a *big.Int) *big.Int { return truth(a.Sign() != 0) },
			"0 || a":      func(a *big.Int) *big.Int { return truth(a.Sign() != 0) },
			"a":           func(a *big.Int) *big.Int { return a },
			"(char) a":    func(a *big.Int) *big.Int { return held(a, 8) },
			"(int) a":     func(a *big.Int) *big.Int { return held(a, 32) },
			"(long) a":    func(a *big.Int) *big.Int { return a },
			"-(-a)":       func(a *big.Int) *big.Int { return a },
			"-(char) a":   func(a *big.Int) *big.Int { return new(big.Int).Neg(held(a, 8)) },
			"a = a + 1":   func(a *big.Int) *big.Int { return held(new(big.Int).Add(a, big.NewInt(1)), x.bits) },
			"yes(a)":      func(a *big.Int) *big.Int { return truth(a.Sign() != 0) },
			"2 + ~a + -a": func(a *big.Int) *big.Int { return held(new(big.Int).Sub(big.NewInt(1), new(big.Int).Lsh(a, 1)), wide) },
		} {
			p := checked(t, told+"int yes("+x.name+" a) { while (a) { if (a) return 1; else return 2; } if (a) return 3; return 0; } int main() { "+x.name+" a = get(); tell("+text+"); }")
			for _, n := range some {
				a := held(big.NewInt(n), x.bits)
				if got := asked(t, p, n); got != want(a).Int64() {
					t.Errorf("P9.1: %s of %s %d: %d, want %d", text, x.name, a, got, want(a))
				}
			}
		}
	}
}

// P9.1: numbers as they are written.
func TestWritten(t *testing.T) {
	for text, want := range map[string]int64{
		"0": 0, "1": 1, "2147483647": math.MaxInt32, "2147483648": 1 << 31, "9223372036854775807": math.MaxInt64, "0xff": 255, "'A'": 65, "0x7fffffff + 1": math.MinInt32, "0x80000000 + 1": 1<<31 + 1,
		"-2147483648": math.MinInt32, "1 << 31": math.MinInt32, "1 << 33 == 2": 1, "-9223372036854775807 - 2": math.MaxInt64, "7 / 0": -1, "7 % 0": 7, "-8 >> 1": -4, "-1 >> 70": -1, "1 << 4294967297": 2, "-7 / 2": -3, "-7 % 2": -1,
		"2147483647 + 1 < 0": 1, "2147483648 + 1 < 0": 0, "-1 < 0x80000000": 1, "3 == 4294967299": 0, "1 + 2 * 3 - 8 / 4 % 5": 5, "1 << 2 + 3": 32, "6 & 3 ^ 1 | 8": 11, "~0": -1, "!5 == 0": 1,
	} {
		if got := asked(t, checked(t, told+"int main() { tell("+text+"); }")); got != want {
			t.Errorf("P9.1: %s: %d, want %d", text, got, want)
		}
	}
}

// P9.1: all of a number stands where it was stored.
func TestStored(t *testing.T) {
	for _, x := range widths {
		for _, place := range []string{"v", "*p", "a[2]", "s.f", "w->f", "p[0]"} {
			p := checked(t, told+"struct s { char c; "+x.name+" f; int z; }; "+x.name+" v; int main() { "+x.name+" *p = &v; "+x.name+" a[3]; struct s s; struct s *w = (struct s *) malloc(sizeof(struct s)); "+place+" = get(); tell("+place+"); }")
			for _, n := range some {
				if got, want := asked(t, p, n), held(big.NewInt(n), x.bits).Int64(); got != want {
					t.Errorf("P9.1: %d in %s, %s: %d, want %d", n, place, x.name, got, want)
				}
			}
		}
	}
}
