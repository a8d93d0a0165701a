package lower_test

import (
	"math"
	"strconv"
	"strings"
	"testing"
)

// show puts out all eight bytes of a number.
const show = "void show(long n) { int i = 0; while (i < 8) { putchar(n >> i * 8); i = i + 1; } } "

// shown is what show puts out.
func shown(l ...int) string {
	var b []byte
	for _, n := range l {
		for k := range 8 {
			b = append(b, byte(n>>(8*k)))
		}
	}
	return string(b)
}

// told is a number as an expression, which has no sign of its own.
func told(n int) string {
	switch {
	case n == math.MinInt:
		return "(-9223372036854775807 - 1)"
	case n < 0:
		return "(-" + strconv.Itoa(-n) + ")"
	}
	return strconv.Itoa(n)
}

// P11.1: what operators make of Chars, Ints and Longs, and of both.
func TestOperators(t *testing.T) {
	for _, c := range []struct {
		x    string
		want int
	}{
		{"2147483647 + 1", math.MinInt32}, {"2147483647 + l", 1 << 31}, {"i - 2147483647 - 2", math.MaxInt32}, {"-2147483647 - 2", math.MaxInt32}, {"l - 2147483649", -1 << 31}, {"65536 * 65536", 0}, {"65536 * (65536 * l)", 1 << 32}, {"c * c", 16384},
		{"7 / 2", 3}, {"-7 / 2", -3}, {"7 / -2", -3}, {"7 / 0", -1}, {"(-2147483647 - 1) / -1", math.MinInt32}, {"(-2147483647 - l) / -1", 1 << 31}, {"7 % 3", 1}, {"-7 % 3", -1}, {"7 % -3", 1}, {"7 % 0", 7}, {"(-2147483647 - 1) % -1", 0},
		{"4294967297 / 2", 1 << 31}, {"4294967297 % 4294967296", 1}, {"1 << 31", math.MinInt32}, {"1 << 32", 1}, {"1 << 33", 2}, {"l << 31", 1 << 31}, {"l << 63", math.MinInt}, {"l << 64", 1}, {"l << 65", 2}, {"1 << -1", math.MinInt32}, {"1 << 4294967296", 1}, {"-8 >> 1", -4}, {"-8 >> 33", -4}, {"-l >> 63", -1}, {"(l << 40) >> 36", 16}, {"c >> 1", -64},
		{"12 & 10", 8}, {"-1 & l << 40", 1 << 40}, {"c & 255", 128}, {"12 ^ 10", 6}, {"-1 ^ l << 40", -1 - 1<<40}, {"12 | 10", 14}, {"c | 1", -127}, {"l << 40 | 1", 1<<40 + 1},
		{"-c", 128}, {"-(-2147483647 - 1)", math.MinInt32}, {"-(-2147483647 - l)", 1 << 31}, {"~0", -1}, {"~c", 127}, {"~(l << 40)", -1 - 1<<40}, {"!0", 1}, {"!5", 0}, {"!!5", 1}, {"!(l << 40)", 0}, {"!c", 0}, {"!i", 1},
		{"1 < 2", 1}, {"2 < 2", 0}, {"-1 < 1", 1}, {"2 <= 2", 1}, {"3 <= 2", 0}, {"-1 <= 1", 1}, {"2 > 1", 1}, {"2 > 2", 0}, {"-1 > 1", 0}, {"2 >= 2", 1}, {"1 >= 2", 0}, {"1 >= -1", 1}, {"2 == 2", 1}, {"2 == 3", 0}, {"2 != 2", 0}, {"2 != 3", 1}, {"-1 != 0", 1}, {"c == -128", 1}, {"c < l", 1},
		{"4294967296 == 0", 0}, {"4294967296 != 0", 1}, {"4294967296 > 1", 1}, {"4294967296 <= 1", 0}, {"4294967295 == -1", 0}, {"9223372036854775807 > -1", 1}, {"-9223372036854775807 - 1 < 9223372036854775807", 1},
		{"(char) 128", -128}, {"(char) 511", -1}, {"(char) -129", 127}, {"(int) 2147483648", math.MinInt32}, {"(int) 4294967295", -1}, {"(int) c", -128}, {"(long) c", -128}, {"(long) -1", -1}, {"(char) (int) 4294967424", -128}, {"(int) (char) 200 + 1", -55}, {"(long) (char) (l << 8)", 0},
		{"sizeof(char)", 1}, {"sizeof(int)", 4}, {"sizeof(long)", 8}, {"sizeof(int *)", 8}, {"sizeof(struct s)", 24}, {"sizeof(struct s *) + sizeof(void *)", 16},
		{"c = 300", 44}, {"i = 4294967301", 5}, {"l = 4294967301", 1<<32 + 5}, {"(i = c) + 1", -127}, {"l = i = c = 511", -1}, {"(c = 300) == 300", 0},
	} {
		ends(t, show+"struct s { char c; long l; int i; }; char c; int i; long l; int main() { c = 128; l = 1; show("+c.x+"); }", shown(c.want), 0)
	}
}

// P11.1: each operator, of each two types, at the ends of what they may be, as the source has it.
func TestAllNumbers(t *testing.T) {
	ends := []int{0, 1, -1, 2, 5, -7, 31, 32, 63, 64, 127, 128, -128, math.MaxInt32, math.MinInt32, math.MaxInt32 + 1, 1<<32 - 1, 1<<32 + 33, math.MaxInt, math.MinInt}
	list := ""
	for k, n := range ends {
		list += "v[" + strconv.Itoa(k) + "] = " + told(n) + "; "
	}
	n := strconv.Itoa(len(ends))
	for _, a := range []string{"char", "int", "long"} {
		for _, b := range []string{"char", "int", "long"} {
			text := show + "long v[" + n + "]; int main() { " + list + "int i = 0; while (i < " + n + ") { " + a + " a = v[i]; show(-a); show(~a); putchar(!a); int j = 0; while (j < " + n + ") { " + b + " b = v[j]; "
			for _, op := range strings.Fields("+ - * / % << >> & ^ |") {
				text += "show(a " + op + " b); "
			}
			for _, op := range strings.Fields("< <= > >= == != && ||") {
				text += "putchar(a " + op + " b); "
			}
			agree(t, text+"j = j + 1; } i = i + 1; } }", "")
		}
	}
}

// P11.1: numbers stand as their types have them: in variables, elements, fields, params, answers.
func TestWidths(t *testing.T) {
	const s = show + "struct s { char c; int i; long l; }; char gc; int gi; long gl; char ac[3]; int ai[3]; long al[3]; struct s gs; struct s as[2]; "
	const n = " = 1311768467463790320; " // 123456789abcdef0 in hexadecimal
	low, half, whole := -0x10, -0x65432110, 0x123456789abcdef0
	ends(t, s+"int main() { gc"+n+"gi"+n+"gl"+n+"show(gc); show(gi); show(gl); }", shown(low, half, whole), 0)
	ends(t, s+"int main() { ac[1]"+n+"ai[1]"+n+"al[1]"+n+"show(ac[1]); show(ai[1]); show(al[1]); show(ac[0] + ai[0] + al[0] + ac[2] + ai[2] + al[2]); }", shown(low, half, whole, 0), 0)
	ends(t, s+"int main() { gs.c"+n+"gs.i"+n+"gs.l"+n+"as[1].c"+n+"as[1].i"+n+"(as + 1)->l"+n+"show(gs.c); show(gs.i); show(gs.l); show(as[1].c); show((&as[1])->i); show((*(as + 1)).l); show(as[0].l); }", shown(low, half, whole, low, half, whole, 0), 0)
	ends(t, s+"void f(char c, int i, long l) { show(c); show(i); show(l); } char g(long l) { return l; } int h(long l) { return l; } int main() { long l"+n+"f(l, l, l); show(g(l)); show(h(l)); char c"+n+"int i"+n+"show(c); show(i); }", shown(low, half, whole, low, half, low, half), 0)
	ends(t, s+"int main() { char *c = (char *) malloc(3); int *i = (int *) malloc(12); long *l = (long *) malloc(24); c[2]"+n+"i[2]"+n+"l[2]"+n+"show(c[2]); show(*(i + 2)); show(l[2]); show(c[1] + i[1] + l[1]); }", shown(low, half, whole, 0), 0)
}
