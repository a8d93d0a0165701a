package num_test

import (
	"math"
	"math/big"
	"math/rand"
	"testing"

	"hauberk/api"
	"hauberk/num"
)

const (
	top = uint64(1) << 63
	all = ^uint64(0)
	low = all - (1<<31 - 1) // -2^31, as 64 bits
)

// edges are the numbers about which the chapter's operations turn: around 0, the counts of moves, the ends of 32 and of 64 bits, signed and not.
var edges = []uint64{
	0, 1, 2, 3, 5, 7, 10, 31, 32, 33, 63, 64, 65, 127, 128, 255, 256,
	1<<31 - 1, 1 << 31, 1<<31 + 1, 1<<32 - 1, 1 << 32, 1<<32 + 1, 1<<32 + 5, 1<<33 - 1, 3 << 31,
	low - 1, low, low + 1, all - (1<<32 - 1), all - (1<<32 - 2),
	1<<40 + 5, 0x123456789abcdef0, 0xfedcba9876543210, 0xaaaaaaaaaaaaaaaa, 0x5555555555555555,
	top - 1, top, top + 1, top + 1<<31, all - 32, all - 6, all - 1, all,
}

// samples are the edges and some numbers in no order, of all lengths.
func samples() []uint64 {
	r := rand.New(rand.NewSource(1))
	l := append([]uint64(nil), edges...)
	for n := range 40 {
		l = append(l, r.Uint64()>>(n*64/40))
	}
	return l
}

func do(t *testing.T, op int, a, b uint64) uint64 {
	t.Helper()
	x, e := num.Do(op, a, b)
	if e != api.OK {
		t.Fatalf("Do(%d, %x, %x): error %d", op, a, b, e)
	}
	return x
}

func narrow(t *testing.T, a uint64, bits int, signed bool) uint64 {
	t.Helper()
	x, e := num.Narrow(a, bits, signed)
	if e != api.OK {
		t.Fatalf("Narrow(%x, %d, %v): error %d", a, bits, signed, e)
	}
	return x
}

// power is 2^n.
func power(n int) *big.Int { return new(big.Int).Lsh(big.NewInt(1), uint(n)) }

// lowBits is x's low n bits, of whatever sign x is; signed or with zeros above.
func lowBits(x *big.Int, n int, signed bool) *big.Int {
	y := new(big.Int).Mod(x, power(n))
	if signed && y.Bit(n-1) == 1 {
		y.Sub(y, power(n))
	}
	return y
}

func number(a uint64) *big.Int { return new(big.Int).SetUint64(a) }

// sixtyFour is x's low 64 bits.
func sixtyFour(x *big.Int) uint64 { return lowBits(x, 64, false).Uint64() }

// way tells how an operation of the chapter is done: of how many bits, of which operation of numbers without end, signed or not.
type way struct {
	name   string
	bits   int
	signed bool
	do     func(a, b *big.Int, bits int) *big.Int
}

func sum(a, b *big.Int, _ int) *big.Int        { return new(big.Int).Add(a, b) }
func difference(a, b *big.Int, _ int) *big.Int { return new(big.Int).Sub(a, b) }
func product(a, b *big.Int, _ int) *big.Int    { return new(big.Int).Mul(a, b) }
func upperHalf(a, b *big.Int, _ int) *big.Int {
	return new(big.Int).Rsh(new(big.Int).Mul(a, b), 64)
}

// by is how far is moved: b's low five or six bits.
func by(b *big.Int, bits int) uint {
	return uint(new(big.Int).Mod(b, big.NewInt(int64(bits))).Uint64())
}
func left(a, b *big.Int, bits int) *big.Int  { return new(big.Int).Lsh(a, by(b, bits)) }
func right(a, b *big.Int, bits int) *big.Int { return new(big.Int).Rsh(a, by(b, bits)) }

func less(a, b *big.Int, _ int) *big.Int {
	if a.Cmp(b) < 0 {
		return big.NewInt(1)
	}
	return big.NewInt(0)
}
func either(a, b *big.Int, _ int) *big.Int  { return new(big.Int).Or(a, b) }
func both(a, b *big.Int, _ int) *big.Int    { return new(big.Int).And(a, b) }
func unequal(a, b *big.Int, _ int) *big.Int { return new(big.Int).Xor(a, b) }

func quotient(a, b *big.Int, _ int) *big.Int {
	if b.Sign() == 0 {
		return big.NewInt(-1)
	}
	return new(big.Int).Quo(a, b)
}
func rest(a, b *big.Int, _ int) *big.Int {
	if b.Sign() == 0 {
		return new(big.Int).Set(a)
	}
	return new(big.Int).Rem(a, b)
}

// ways are all the operations, by their numbers.
func ways() map[int]way {
	return map[int]way{
		api.ADD: {"ADD", 64, false, sum}, api.SUB: {"SUB", 64, false, difference},
		api.SLL: {"SLL", 64, false, left}, api.SRL: {"SRL", 64, false, right}, api.SRA: {"SRA", 64, true, right},
		api.SLT: {"SLT", 64, true, less}, api.SLTU: {"SLTU", 64, false, less},
		api.XOR: {"XOR", 64, false, unequal}, api.OR: {"OR", 64, false, either}, api.AND: {"AND", 64, false, both},
		api.MUL: {"MUL", 64, false, product}, api.MULH: {"MULH", 64, true, upperHalf}, api.MULHU: {"MULHU", 64, false, upperHalf},
		api.DIV: {"DIV", 64, true, quotient}, api.DIVU: {"DIVU", 64, false, quotient},
		api.REM: {"REM", 64, true, rest}, api.REMU: {"REMU", 64, false, rest},
		api.ADDW: {"ADDW", 32, true, sum}, api.SUBW: {"SUBW", 32, true, difference}, api.MULW: {"MULW", 32, true, product},
		api.SLLW: {"SLLW", 32, true, left}, api.SRLW: {"SRLW", 32, false, right}, api.SRAW: {"SRAW", 32, true, right},
		api.DIVW: {"DIVW", 32, true, quotient}, api.DIVUW: {"DIVUW", 32, false, quotient},
		api.REMW: {"REMW", 32, true, rest}, api.REMUW: {"REMUW", 32, false, rest},
	}
}

// mean is what the chapter's words ask of an operation.
func (w way) mean(a, b uint64) uint64 {
	x := w.do(lowBits(number(a), w.bits, w.signed), lowBits(number(b), w.bits, w.signed), w.bits)
	if w.bits == 32 {
		x = lowBits(x, 32, true)
	}
	return sixtyFour(x)
}

// P1.1: each operation, of all pairs of samples, is what numbers without end make of it.
func TestDoByTheWords(t *testing.T) {
	l := samples()
	table := ways()
	for op := api.ADD; op <= api.REMUW; op++ {
		w, ok := table[op]
		if !ok {
			t.Fatalf("operation %d has no way", op)
		}
		t.Run(w.name, func(t *testing.T) {
			for _, a := range l {
				for _, b := range l {
					if x, want := do(t, op, a, b), w.mean(a, b); x != want {
						t.Fatalf("P1.1: %s of %x, %x: %x, want %x", w.name, a, b, x, want)
					}
				}
			}
		})
	}
}

// P1.1: numbers written out by hand: the chapter's example, and what its words name.
func TestDoWrittenOut(t *testing.T) {
	for _, c := range []struct {
		name       string
		op         int
		a, b, want uint64
	}{
		{"the chapter's example", api.SRAW, 0x80000000, 4, 0xfffffffff8000000},
		{"ADD wraps round", api.ADD, all, 2, 1},
		{"SUB wraps round", api.SUB, 0, 1, all},
		{"MUL is the low half", api.MUL, 1<<32 + 1, 1 << 32, 1 << 32},
		{"MULH of two below 0", api.MULH, top, top, 1 << 62},
		{"MULH of one below 0", api.MULH, all, 1, all},
		{"MULH of the other below 0", api.MULH, 2, all, all},
		{"MULHU of the greatest", api.MULHU, all, all, all - 1},
		{"SLL by six bits", api.SLL, 1, 63, top},
		{"SLL by no more than six", api.SLL, 3, 64, 3},
		{"SRL with zeros", api.SRL, top, 63, 1},
		{"SRL by no more than six", api.SRL, 6, 65, 3},
		{"SRA with copies", api.SRA, top, 63, all},
		{"SRA of one that isn't below 0", api.SRA, top - 1, 62, 1},
		{"SRA by no more than six", api.SRA, top, 64, top},
		{"SLT signed", api.SLT, all, 0, 1},
		{"SLT of the same", api.SLT, 5, 5, 0},
		{"SLTU unsigned", api.SLTU, all, 0, 0},
		{"SLTU of a lesser one", api.SLTU, 0, all, 1},
		{"XOR", api.XOR, 0xc, 0xa, 0x6},
		{"OR", api.OR, 0xc, 0xa, 0xe},
		{"AND", api.AND, 0xc, 0xa, 0x8},
		{"DIV towards zero", api.DIV, all - 6, 2, all - 2},
		{"DIV by one below 0", api.DIV, 7, all - 1, all - 2},
		{"DIV by 0", api.DIV, 5, 0, all},
		{"DIV of the lowest and -1", api.DIV, top, all, top},
		{"REM has the first's sign", api.REM, all - 6, 2, all},
		{"REM hasn't the second's sign", api.REM, 7, all - 1, 1},
		{"REM by 0", api.REM, all - 4, 0, all - 4},
		{"REM of the lowest and -1", api.REM, top, all, 0},
		{"DIVU", api.DIVU, all, 2, top - 1},
		{"DIVU of the same bits as the lowest and -1", api.DIVU, top, all, 0},
		{"DIVU by 0", api.DIVU, 5, 0, all},
		{"REMU", api.REMU, all, 10, 5},
		{"REMU of the same bits as the lowest and -1", api.REMU, top, all, top},
		{"REMU by 0", api.REMU, all, 0, all},
		{"ADDW wraps round at 32", api.ADDW, 1<<31 - 1, 1, low},
		{"ADDW leaves what is above", api.ADDW, 7<<32 + 1, 9<<40 + 1, 2},
		{"SUBW", api.SUBW, 1 << 32, 1, all},
		{"MULW", api.MULW, 1<<16 + 1, 1 << 15, 0xffffffff80008000},
		{"SLLW by five bits", api.SLLW, 1, 31, low},
		{"SLLW by no more than five", api.SLLW, 1, 32, 1},
		{"SRLW with zeros", api.SRLW, all, 28, 15},
		{"SRLW by 0 is signed", api.SRLW, 1 << 31, 32, low},
		{"SRAW by no more than five", api.SRAW, 1 << 31, 63, all},
		{"SRAW leaves what is above", api.SRAW, 1<<63 + 16, 4, 1},
		{"DIVW towards zero", api.DIVW, 1<<32 - 7, 2, all - 2},
		{"DIVW by low bits of 0", api.DIVW, 5, 1 << 32, all},
		{"DIVW of the lowest and -1", api.DIVW, 1 << 31, 1<<32 - 1, low},
		{"DIVUW is signed at its end", api.DIVUW, 1 << 31, 1, low},
		{"DIVUW by low bits of 0", api.DIVUW, 5, 1 << 32, all},
		{"REMW of the lowest and -1", api.REMW, 1 << 31, 1<<32 - 1, 0},
		{"REMW by 0", api.REMW, 1<<40 + 1<<31, 0, low},
		{"REMUW unsigned", api.REMUW, 1<<32 - 1, 10, 5},
		{"REMUW by 0 is signed", api.REMUW, 1 << 31, 1 << 32, low},
	} {
		if x := do(t, c.op, c.a, c.b); x != c.want {
			t.Errorf("P1.1: %s: Do(%d, %x, %x): %x, want %x", c.name, c.op, c.a, c.b, x, c.want)
		}
	}
}

// P1.1, R3: what is no operation is ErrRange, and 0 beside it.
func TestDoOfNone(t *testing.T) {
	for _, op := range []int{math.MinInt, -(1 << 32) + 1, -27, -1, 0, 28, api.ADDI, api.ECALL, 56, 257, 1<<32 + 1, math.MaxInt} {
		for _, a := range []uint64{0, 5, all} {
			if x, e := num.Do(op, a, 3); x != 0 || e != api.ErrRange {
				t.Errorf("P1.1: Do(%d, %x, 3): %x, %d, want 0, %d", op, a, x, e, api.ErrRange)
			}
		}
	}
}

// P1.1: to each number of bits, signed and not.
func TestNarrowByTheWords(t *testing.T) {
	for _, a := range samples() {
		for n := 1; n <= 64; n++ {
			for _, signed := range []bool{false, true} {
				want := sixtyFour(lowBits(number(a), n, signed))
				if x := narrow(t, a, n, signed); x != want {
					t.Fatalf("P1.1: Narrow(%x, %d, %v): %x, want %x", a, n, signed, x, want)
				}
			}
		}
	}
}

// P1.1: numbers written out by hand: the chapter's example, and the ends.
func TestNarrowWrittenOut(t *testing.T) {
	for _, c := range []struct {
		a      uint64
		bits   int
		signed bool
		want   uint64
	}{
		{0x1ff, 8, true, all}, {0x1ff, 8, false, 0xff},
		{0x17f, 8, true, 0x7f}, {0x180, 8, true, all - 127},
		{1, 1, true, all}, {1, 1, false, 1}, {2, 1, true, 0},
		{1 << 31, 32, true, low}, {low, 32, false, 1 << 31},
		{1 << 62, 63, true, 3 << 62}, {all, 63, false, top - 1},
		{all, 64, true, all}, {top, 64, true, top}, {top, 64, false, top}, {0, 64, false, 0},
	} {
		if x := narrow(t, c.a, c.bits, c.signed); x != c.want {
			t.Errorf("P1.1: Narrow(%x, %d, %v): %x, want %x", c.a, c.bits, c.signed, x, c.want)
		}
	}
}

// P1.1, R3: to other numbers of bits than 1 to 64 is ErrRange, and 0 beside it.
func TestNarrowToNone(t *testing.T) {
	for _, n := range []int{math.MinInt, -64, -1, 0, 65, 128, 1<<32 + 8, math.MaxInt} {
		for _, signed := range []bool{false, true} {
			if x, e := num.Narrow(5, n, signed); x != 0 || e != api.ErrRange {
				t.Errorf("P1.1: Narrow(5, %d, %v): %x, %d, want 0, %d", n, signed, x, e, api.ErrRange)
			}
		}
	}
}

// P1.1: a number's bits, and what they mean: from 2^63 on itself less 2^64.
func TestOfAndSigned(t *testing.T) {
	for _, c := range []struct {
		n int
		a uint64
	}{{0, 0}, {1, 1}, {-1, all}, {-2, all - 1}, {1 << 32, 1 << 32}, {-1 << 31, low}, {math.MaxInt, top - 1}, {math.MinInt, top}, {math.MinInt + 1, top + 1}} {
		if a := num.Of(c.n); a != c.a {
			t.Errorf("P1.1: Of(%d): %x, want %x", c.n, a, c.a)
		}
		if n := num.Signed(c.a); n != c.n {
			t.Errorf("P1.1: Signed(%x): %d, want %d", c.a, n, c.n)
		}
	}
	for _, a := range samples() {
		if n := num.Signed(a); big.NewInt(int64(n)).Cmp(lowBits(number(a), 64, true)) != 0 || num.Of(n) != a {
			t.Errorf("P1.1: Signed(%x): %d, whose bits are %x", a, n, num.Of(n))
		}
	}
}

// P1.2: the quotient times the second, and the rest, make the first; the rest is nearer to 0 than the second, and on the first's side.
func TestQuotientsMakeTheFirst(t *testing.T) {
	for _, a := range samples() {
		for _, b := range samples() {
			for _, ops := range [][2]int{{api.DIV, api.REM}, {api.DIVU, api.REMU}} {
				q, r := do(t, ops[0], a, b), do(t, ops[1], a, b)
				if q*b+r != a {
					t.Fatalf("P1.2: of %x, %x: %d is %x, %d is %x", a, b, ops[0], q, ops[1], r)
				}
				if b == 0 {
					continue
				}
				signed := ops[0] == api.DIV
				first, second, left := lowBits(number(a), 64, signed), lowBits(number(b), 64, signed), lowBits(number(r), 64, signed)
				if left.CmpAbs(second) >= 0 || left.Sign() != 0 && left.Sign() != first.Sign() {
					t.Fatalf("P1.2: of %x, %x: %d leaves %x", a, b, ops[1], r)
				}
			}
		}
	}
}

// P1.2: the upper half and the low one are the whole product, signed by MULH, unsigned by MULHU.
func TestHalvesAreTheProduct(t *testing.T) {
	for _, a := range samples() {
		for _, b := range samples() {
			for _, op := range []int{api.MULH, api.MULHU} {
				signed := op == api.MULH
				whole := lowBits(number(do(t, op, a, b)), 64, signed)
				whole.Add(whole.Lsh(whole, 64), number(do(t, api.MUL, a, b)))
				want := new(big.Int).Mul(lowBits(number(a), 64, signed), lowBits(number(b), 64, signed))
				if whole.Cmp(want) != 0 {
					t.Fatalf("P1.2: %d and MUL of %x, %x: %x, want %x", op, a, b, whole, want)
				}
			}
		}
	}
}

// P1.3: what is narrowed again, to as many bits or more, is the same.
func TestNarrowAgain(t *testing.T) {
	for _, a := range samples() {
		for n := 1; n <= 64; n++ {
			for _, signed := range []bool{false, true} {
				once := narrow(t, a, n, signed)
				for more := n; more <= 64; more++ {
					if twice := narrow(t, once, more, signed); twice != once {
						t.Fatalf("P1.3: %x to %d bits is %x, to %d then %x", a, n, once, more, twice)
					}
				}
			}
		}
	}
}

// P1.3: sums, differences and products, narrowed, are those of narrowed operands, narrowed.
func TestNarrowAhead(t *testing.T) {
	for _, a := range edges {
		for _, b := range edges {
			for _, n := range []int{1, 2, 7, 8, 16, 31, 32, 33, 63, 64} {
				for _, signed := range []bool{false, true} {
					checkAhead(t, a, b, n, signed)
				}
			}
		}
	}
}

func checkAhead(t *testing.T, a, b uint64, n int, signed bool) {
	t.Helper()
	x, y := narrow(t, a, n, signed), narrow(t, b, n, signed)
	for _, op := range []int{api.ADD, api.SUB, api.MUL} {
		behind := narrow(t, do(t, op, a, b), n, signed)
		ahead := narrow(t, do(t, op, x, y), n, signed)
		if behind != ahead {
			t.Fatalf("P1.3: %d of %x, %x to %d bits: %x, of narrowed ones %x", op, a, b, n, behind, ahead)
		}
	}
}

// P1.3: those with W are the others, narrowed to 32 bits.
func TestWordsAreNarrowed(t *testing.T) {
	for _, a := range edges {
		for _, b := range edges {
			for _, ops := range [][2]int{{api.ADDW, api.ADD}, {api.SUBW, api.SUB}, {api.MULW, api.MUL}} {
				x, want := do(t, ops[0], a, b), narrow(t, do(t, ops[1], a, b), 32, true)
				if x != want {
					t.Fatalf("P1.3: %d of %x, %x: %x, but %d narrowed: %x", ops[0], a, b, x, ops[1], want)
				}
			}
		}
	}
}

// P6: each call answers, and none panics, at all operations and all numbers of bits around those that there are.
func TestNoPanic(t *testing.T) {
	for _, a := range edges {
		for _, b := range edges {
			for op := -70; op <= 70; op++ {
				if _, e := num.Do(op, a, b); (e == api.OK) != (op >= 1 && op <= 27) {
					t.Fatalf("P6: Do(%d, %x, %x): error %d", op, a, b, e)
				}
			}
		}
		for n := -130; n <= 130; n++ {
			if _, e := num.Narrow(a, n, n&1 == 0); (e == api.OK) != (n >= 1 && n <= 64) {
				t.Fatalf("P6: Narrow(%x, %d): error %d", a, n, e)
			}
		}
	}
}

// P7 (R1, R8): int has 64 bits; an answer doesn't hang on what was asked ahead of it.
func TestSameAgain(t *testing.T) {
	if num.Signed(num.Of(1<<62+1)) != 1<<62+1 {
		t.Error("P7: R1: int hasn't 64 bits")
	}
	type asked struct {
		op   int
		a, b uint64
	}
	answers := map[asked]uint64{}
	for op := 1; op <= 27; op++ {
		for _, a := range edges {
			for _, b := range edges {
				answers[asked{op, a, b}] = do(t, op, a, b)
			}
		}
	}
	for q, want := range answers {
		if x := do(t, q.op, q.a, q.b); x != want {
			t.Fatalf("P7: R8: Do(%d, %x, %x): %x, and then %x", q.op, q.a, q.b, want, x)
		}
	}
}
