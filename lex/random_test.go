package lex_test

import (
	"math/big"
	"math/rand"
	"reflect"
	"regexp"
	"slices"
	"strconv"
	"strings"
	"testing"
	"unsafe"

	"hauberk/api"
	"hauberk/lex"
)

var (
	between = regexp.MustCompile(`^(?:[\t\n\r ]|//[^\n]*|/\*(?s:.*?)\*/)*`)
	named   = regexp.MustCompile(`^[A-Za-z_][A-Za-z0-9_]*`)
	counted = regexp.MustCompile(`^(?:0x[0-9a-f]+|[0-9]+)[A-Za-z0-9_]?`)
	byted   = regexp.MustCompile(`^'[ -&(-\[\]-~]'`)
	hexed   = regexp.MustCompile(`\A0x[0-9a-f]+\z`)
	tenned  = regexp.MustCompile(`\A[0-9]+\z`)
	signed  = regexp.MustCompile(`^(?:->|<<|>>|<=|>=|==|!=|&&|\|\||[-+*/%&^~!<>=(){}\[\];,.|])`)
)

// modelMean is what a text means, reckoned without end; nothing, if it is no TNum.
func modelMean(s string) *big.Int {
	if byted.FindString(s) == s && s != "" {
		return big.NewInt(int64(s[1]))
	}
	n, ok := new(big.Int), false
	if hexed.MatchString(s) {
		n, ok = n.SetString(s[2:], 16)
	} else if tenned.MatchString(s) {
		n, ok = n.SetString(s, 10)
	}
	if !ok || len(s) > 20 || n.BitLen() > 63 {
		return nil
	}
	return n
}

// modelToken is the token with which a text begins: nothing, if that goes wrong.
func modelToken(s string) (int, string) {
	switch {
	case strings.HasPrefix(s, "/*"):
		return api.TSign, ""
	case named.MatchString(s):
		x := named.FindString(s)
		if len(x) > 32 {
			return api.TName, ""
		}
		if slices.Contains(strings.Fields(words), x) {
			return api.TWord, x
		}
		return api.TName, x
	case counted.MatchString(s), byted.MatchString(s):
		x := counted.FindString(s) + byted.FindString(s)
		if modelMean(x) == nil {
			return api.TNum, ""
		}
		return api.TNum, x
	}
	return api.TSign, signed.FindString(s)
}

// model lexes by what the chapter's rows are as patterns.
func model(text string) ([]api.Token, int, api.Errno) {
	if len(text) > 8192 {
		return nil, 8192, api.ErrFull
	}
	l := []api.Token{}
	for rest := text; ; {
		rest = rest[len(between.FindString(rest)):]
		at := len(text) - len(rest)
		if rest == "" {
			return append(l, api.Token{At: at}), 0, api.OK
		}
		kind, x := modelToken(rest)
		switch {
		case x == "":
			return nil, at, api.ErrLex
		case len(l) == 2500:
			return nil, at, api.ErrFull
		}
		l = append(l, api.Token{Kind: kind, Text: x, At: at})
		rest = rest[len(x):]
	}
}

func compare(t *testing.T, text string) api.Errno {
	t.Helper()
	l, at, e := lex.Lex(text)
	m, place, wrong := model(text)
	if !slices.Equal(l, m) || at != place || e != wrong {
		t.Fatalf("P5.1: Lex(%q): %s, want %s", text, told(l, at, e), told(m, place, wrong))
	}
	return e
}

func compareMeans(t *testing.T, s string) {
	t.Helper()
	n, e := lex.Mean(s)
	m := modelMean(s)
	if m == nil && (n != 0 || e != api.ErrLex) || m != nil && (m.Cmp(new(big.Int).SetUint64(n)) != 0 || e != api.OK) {
		t.Fatalf("P5.1: Mean(%q): %d, %d, want %v", s, n, e, m)
	}
}

// pick is one of them.
func pick(r *rand.Rand, l ...string) string { return l[r.Intn(len(l))] }

// made is so many bytes out of some.
func made(r *rand.Rand, n int, of string) string {
	b := make([]byte, n)
	for i := range b {
		b[i] = of[r.Intn(len(of))]
	}
	return string(b)
}

const inNames = "abcdefxyzABFZ_0123456789"

// numeral is a number that is right.
func numeral(r *rand.Rand) string {
	n := r.Uint64() >> (1 + r.Intn(63))
	switch r.Intn(4) {
	case 0:
		return "0x" + strconv.FormatUint(n, 16)
	case 1:
		return "'" + made(r, 1, " !\"#$%&()*+/09:;<=>?@AZ[]^_`az{|}~") + "'"
	case 2:
		return strings.Repeat("0", r.Intn(2)) + strconv.FormatUint(n, 10)
	}
	return strconv.Itoa(r.Intn(300))
}

// token is one that is right.
func token(r *rand.Rand) string {
	switch r.Intn(4) {
	case 0:
		return pick(r, strings.Fields(words)...)
	case 1:
		return numeral(r)
	case 2:
		return pick(r, "a", "_", "Z", "x", "i", "in", "ints") + made(r, r.Intn(28), inNames)
	}
	return pick(r, strings.Fields(signs)...)
}

// blank is one blank, or some, or a remark.
func blank(r *rand.Rand) string {
	return pick(r, " ", "\n", "\t", "\r\n", "  \n ", "//\n", "// a 'b /* \n", "/**/", "/***/", "/* 'a // \n*/", "/*/ @ \x00\xff*/", "//*/\n")
}

// apart is what keeps any two tokens apart: no remark stands at once behind one, which may be a /.
func apart(r *rand.Rand) string { return pick(r, " ", "\t", "\n", "\r") + pick(r, "", "", blank(r)) }

// odd is what may be wrong, by itself or by what is beside it.
func odd(r *rand.Rand) string {
	switch r.Intn(6) {
	case 0:
		return made(r, 31+r.Intn(4), "abz_019")
	case 1:
		return made(r, 17+r.Intn(5), "0123456789")
	case 2:
		return "0x" + made(r, 14+r.Intn(7), "0001789abcdef")
	case 3:
		return made(r, 1+r.Intn(4), inNames)
	case 4:
		return pick(r, "/*", "'", "''", "'\\'", "@", "0x", "0X1", "1_", "12a", "\"", "\x00", "\x0b", "\x80", "\xff", "é")
	}
	return string([]byte{byte(r.Intn(256))})
}

// P5.1: texts of tokens, blanks and what may be wrong, against the chapter's rows as patterns.
func TestRandomTexts(t *testing.T) {
	seen := map[api.Errno]int{}
	for seed := range int64(8000) {
		r := rand.New(rand.NewSource(seed))
		wild := r.Intn(3)
		b := strings.Builder{}
		for range r.Intn(40) {
			switch n := r.Intn(20); {
			case n < 9:
				b.WriteString(token(r))
			case n < 19 || wild != 0:
				b.WriteString(blank(r))
			default:
				b.WriteString(odd(r))
			}
		}
		seen[compare(t, b.String())]++
	}
	if seen[api.OK] < 1000 || seen[api.ErrLex] < 1000 {
		t.Errorf("the samples are lopsided: %v", seen)
	}
}

// P5.1: texts around the greatest lengths, against the chapter's rows as patterns.
func TestRandomLongTexts(t *testing.T) {
	seen := map[api.Errno]int{}
	for seed := range int64(60) {
		r := rand.New(rand.NewSource(seed))
		b := strings.Builder{}
		for range 2490 + r.Intn(20) {
			b.WriteString(pick(r, ";", "<<", "- ", "'a'", "a\n", "7 ", "->"))
		}
		b.WriteString(pick(r, "", "@", "a b 1a", "/*"))
		seen[compare(t, b.String())]++
		compare(t, b.String()+strings.Repeat(" ", max(0, 8190+r.Intn(5)-b.Len())))
	}
	if seen[api.OK] == 0 || seen[api.ErrLex] == 0 || seen[api.ErrFull] == 0 {
		t.Errorf("the samples are lopsided: %v", seen)
	}
}

// walk gives all texts of up to so many bytes, out of some.
func walk(n int, of string, give func(string)) {
	give("")
	if n == 0 {
		return
	}
	for i := range len(of) {
		walk(n-1, of, func(s string) { give(of[i:i+1] + s) })
	}
}

// P5.1, P6: all texts of two bytes, and all short ones of bytes that go together in many ways, for Lex and for Mean, against the chapter's rows as patterns.
func TestAllShort(t *testing.T) {
	for i := range 1 << 16 {
		s := string([]byte{byte(i >> 8), byte(i)})
		compare(t, s)
		compareMeans(t, s)
	}
	for _, of := range []string{"/*\n a", "0x1fFg_", "'a\\ ", "<=>-!&|", "if0\x00/"} {
		walk(5, of, func(s string) {
			compare(t, s)
			compareMeans(t, s)
		})
	}
}

// P5.1: numbers around the greatest that may be, with noughts ahead of them.
func TestAroundTheGreatest(t *testing.T) {
	for d := uint64(0); d < 40; d++ {
		for _, n := range []uint64{1<<63 - 20 + d, d - 20, 1<<60 - 20 + d, 1<<59 - 20 + d} {
			for zeros := range 6 {
				for _, s := range []string{strconv.FormatUint(n, 10), strconv.FormatUint(n, 16)} {
					compareMeans(t, strings.Repeat("0", zeros)+s)
					compareMeans(t, "0x"+strings.Repeat("0", zeros)+s)
				}
			}
		}
	}
	for seed := range int64(20000) {
		r := rand.New(rand.NewSource(seed))
		compareMeans(t, numeral(r))
		compareMeans(t, odd(r))
	}
}

// some is a text that is right, of tokens that blanks keep apart.
func some(r *rand.Rand) string {
	b := strings.Builder{}
	for range r.Intn(60) {
		b.WriteString(token(r) + apart(r))
	}
	return b.String()
}

// P5.2: each token stands at its place, in order, with nothing but blanks and remarks between; with other blanks between they are the same.
func TestSameTokens(t *testing.T) {
	for seed := range int64(2000) {
		r := rand.New(rand.NewSource(seed))
		text := some(r)
		l, _, e := lex.Lex(text)
		if e != api.OK || len(l) == 0 || l[len(l)-1] != (api.Token{At: len(text)}) {
			t.Fatalf("P5.2: Lex(%q): %s", text, lexed(text))
		}
		again, end := strings.Builder{}, 0
		for _, x := range l {
			if x.At < end || !strings.HasPrefix(text[x.At:], x.Text) || between.FindString(text[end:x.At]) != text[end:x.At] {
				t.Fatalf("P5.2: seed %d: %q isn't at %d of %q, behind %d", seed, x.Text, x.At, text, end)
			}
			end = x.At + len(x.Text)
			again.WriteString(x.Text + apart(r))
		}
		m, _, e := lex.Lex(again.String())
		if e != api.OK || len(m) != len(l) {
			t.Fatalf("P5.2: seed %d: %s, and then %s", seed, lexed(text), lexed(again.String()))
		}
		for i := range m {
			if m[i].Kind != l[i].Kind || m[i].Text != l[i].Text {
				t.Fatalf("P5.2: seed %d: %v, and then %v", seed, l[i], m[i])
			}
		}
	}
}

// P5.1: what is a TNum to Lex is one to Mean, and nothing else.
func TestNumbersMean(t *testing.T) {
	for seed := range int64(500) {
		l, _, _ := lex.Lex(some(rand.New(rand.NewSource(seed))))
		for _, x := range l {
			if _, e := lex.Mean(x.Text); (e == api.OK) != (x.Kind == api.TNum) {
				t.Fatalf("P5.1: Mean(%q), of kind %d: %d", x.Text, x.Kind, e)
			}
		}
	}
}

// within tells whether a text's bytes stand in the memory of another's.
func within(x, text string) bool {
	if x == "" || text == "" {
		return false
	}
	from, at := uintptr(unsafe.Pointer(unsafe.StringData(text))), uintptr(unsafe.Pointer(unsafe.StringData(x)))
	return at >= from && at < from+uintptr(len(text))
}

// P5.3 (R6): answers are new memory: what is stored in one, or in its spare room, is in no other; texts aren't pieces of what was handed in, which so isn't kept.
func TestAnswersAreNew(t *testing.T) {
	for seed := range int64(100) {
		text := some(rand.New(rand.NewSource(seed)))
		a, _, _ := lex.Lex(text)
		b, _, _ := lex.Lex(text)
		was := slices.Clone(a)
		for i := range a[:cap(a)] {
			a[:cap(a)][i] = api.Token{Kind: -1, Text: "x", At: -1}
		}
		c, _, _ := lex.Lex(text)
		if !slices.Equal(b, was) || !slices.Equal(c, was) {
			t.Fatalf("P5.3: seed %d: %v and %v, want %v", seed, b, c, was)
		}
		for _, x := range b {
			if within(x.Text, text) {
				t.Fatalf("P5.3: seed %d: %q at %d shares what was handed in", seed, x.Text, x.At)
			}
		}
	}
}

// P7 (R3): beside an error there are no tokens.
func TestNothingBesideErrors(t *testing.T) {
	for _, text := range []string{"a b @", "a /*", "12a", strings.Repeat(";", 2501), strings.Repeat("; ", 5000)} {
		if l, _, e := lex.Lex(text); len(l) != 0 || e == api.OK {
			t.Errorf("P7: R3: Lex(%.10q): %d tokens, %d", text, len(l), e)
		}
	}
}

// P6: each call answers, and none panics, of any bytes.
func TestNonePanics(t *testing.T) {
	for seed := range int64(3000) {
		r := rand.New(rand.NewSource(seed))
		b := make([]byte, r.Intn(200))
		r.Read(b)
		compare(t, string(b))
		compareMeans(t, string(b[:min(len(b), r.Intn(30))]))
		compare(t, made(r, r.Intn(200), "/*'\n 0x1ab<->=@"))
	}
	for i := range 256 {
		c := string([]byte{byte(i)})
		for _, n := range []int{8191, 8192, 8193, 1 << 20} {
			lex.Lex(strings.Repeat(c, n))
			lex.Mean(strings.Repeat(c, n))
		}
	}
}

// P7 (R8): an answer doesn't hang on what was asked ahead of it.
func TestAsksAgain(t *testing.T) {
	ask := func(seed int64) []any {
		r := rand.New(rand.NewSource(seed))
		l, at, e := lex.Lex(some(r) + pick(r, "", "@", "1a"))
		n, wrong := lex.Mean(pick(r, numeral(r), odd(r)))
		return []any{l, at, e, n, wrong}
	}
	first := [][]any{}
	for seed := range int64(200) {
		first = append(first, ask(seed))
	}
	for seed := int64(199); seed >= 0; seed-- {
		if again := ask(seed); !reflect.DeepEqual(again, first[seed]) {
			t.Fatalf("P7: R8: seed %d: %v, and then %v", seed, first[seed], again)
		}
	}
}
