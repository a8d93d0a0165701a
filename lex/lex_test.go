package lex_test

import (
	"slices"
	"strconv"
	"strings"
	"testing"

	"hauberk/api"
	"hauberk/lex"
)

const (
	words = "char int long void struct if else while return break continue sizeof malloc"
	signs = "-> << >> <= >= == != && || + - * / % & ^ ~ ! < > = ( ) { } [ ] ; , . |"
)

// told is what an answer has, in a line: an error and its place, or each token's kind, text and place.
func told(l []api.Token, at int, e api.Errno) string {
	if e != api.OK {
		return "error " + strconv.Itoa(int(e)) + " at " + strconv.Itoa(at) + " beside " + strconv.Itoa(len(l))
	}
	parts := []string{}
	for _, x := range l {
		kind := "?"
		if x.Kind >= api.TEnd && x.Kind <= api.TWord {
			kind = []string{api.TEnd: "end", api.TName: "name", api.TNum: "num", api.TSign: "sign", api.TWord: "word"}[x.Kind]
		}
		parts = append(parts, kind+" "+strconv.Quote(x.Text)+strconv.Itoa(x.At))
	}
	if at != 0 {
		parts = append(parts, "place "+strconv.Itoa(at))
	}
	return strings.Join(parts, ", ")
}

func wrongAt(e api.Errno, at int) string { return told(nil, at, e) }

func lexed(text string) string { return told(lex.Lex(text)) }

// only is what is told of a text that is one token.
func only(kind int, text string) string {
	return told([]api.Token{{Kind: kind, Text: text}, {At: len(text)}}, 0, api.OK)
}

// P5.1: texts written out, with each token's kind, text and place.
func TestTexts(t *testing.T) {
	for text, want := range map[string]string{
		"":                 `end ""0`,
		" \t\r\n":          `end ""4`,
		"p->x = 0x1f;":     `name "p"0, sign "->"1, name "x"3, sign "="5, num "0x1f"7, sign ";"11, end ""12`,
		"int a[0];":        `word "int"0, name "a"4, sign "["5, num "0"6, sign "]"7, sign ";"8, end ""9`,
		"x=-1":             `name "x"0, sign "="1, sign "-"2, num "1"3, end ""4`,
		"a-->b":            `name "a"0, sign "-"1, sign "->"2, name "b"4, end ""5`,
		"a<<=b":            `name "a"0, sign "<<"1, sign "="3, name "b"4, end ""5`,
		"<<<":              `sign "<<"0, sign "<"2, end ""3`,
		"===":              `sign "=="0, sign "="2, end ""3`,
		"!==":              `sign "!="0, sign "="2, end ""3`,
		"&&&":              `sign "&&"0, sign "&"2, end ""3`,
		"|||":              `sign "||"0, sign "|"2, end ""3`,
		"=>=<":             `sign "="0, sign ">="1, sign "<"3, end ""4`,
		"++ += -=":         `sign "+"0, sign "+"1, sign "+"3, sign "="4, sign "-"6, sign "="7, end ""8`,
		"< <":              `sign "<"0, sign "<"2, end ""3`,
		"f(a,b.c)":         `name "f"0, sign "("1, name "a"2, sign ","3, name "b"4, sign "."5, name "c"6, sign ")"7, end ""8`,
		"1.5":              `num "1"0, sign "."1, num "5"2, end ""3`,
		"'a'b":             `num "'a'"0, name "b"3, end ""4`,
		"'a'1":             `num "'a'"0, num "1"3, end ""4`,
		"'a''b'":           `num "'a'"0, num "'b'"3, end ""6`,
		"1'a'":             `num "1"0, num "'a'"1, end ""4`,
		"a'a'":             `name "a"0, num "'a'"1, end ""4`,
		"' '":              `num "' '"0, end ""3`,
		"'/'*'*'/2":        `num "'/'"0, sign "*"3, num "'*'"4, sign "/"7, num "2"8, end ""9`,
		"malloc mallocs _": `word "malloc"0, name "mallocs"7, name "_"15, end ""16`,
		"int1 int_ _int":   `name "int1"0, name "int_"5, name "_int"10, end ""14`,
		"0 00 0x0":         `num "0"0, num "00"2, num "0x0"5, end ""8`,
		"x0x1":             `name "x0x1"0, end ""4`,
	} {
		if got := lexed(text); got != want {
			t.Errorf("P5.1: Lex(%q): %s, want %s", text, got, want)
		}
	}
}

// P5.1: all words and signs, and what looks like words.
func TestEach(t *testing.T) {
	for word := range strings.FieldsSeq(words) {
		if got, want := lexed(word), only(api.TWord, word); got != want {
			t.Errorf("P5.1: Lex(%q): %s, want %s", word, got, want)
		}
		for _, name := range []string{word + "s", word + "_", word + "0", "_" + word, strings.ToUpper(word), word + word, word[1:]} {
			if got, want := lexed(name), only(api.TName, name); got != want {
				t.Errorf("P5.1: Lex(%q): %s, want %s", name, got, want)
			}
		}
	}
	for sign := range strings.FieldsSeq(signs) {
		if got, want := lexed(sign), only(api.TSign, sign); got != want {
			t.Errorf("P5.1: Lex(%q): %s, want %s", sign, got, want)
		}
	}
	for _, name := range []string{"main", "for", "short", "null", "put", "get", "exit", "free", "a1_Z", "Z", "__"} {
		if got, want := lexed(name), only(api.TName, name); got != want {
			t.Errorf("P5.1: Lex(%q): %s, want %s", name, got, want)
		}
	}
}

// P5.1: each byte alone: which begins a token, and which is between.
func TestBytes(t *testing.T) {
	for c := range 256 {
		text := string([]byte{byte(c)})
		want := wrongAt(api.ErrLex, 0)
		switch {
		case c >= 'a' && c <= 'z', c >= 'A' && c <= 'Z', c == '_':
			want = only(api.TName, text)
		case c >= '0' && c <= '9':
			want = only(api.TNum, text)
		case c == 9, c == 10, c == 13, c == 32:
			want = `end ""1`
		case slices.Contains(strings.Fields(signs), text):
			want = only(api.TSign, text)
		}
		if got := lexed(text); got != want {
			t.Errorf("P5.1: Lex(%q): %s, want %s", text, got, want)
		}
	}
}

// P5.1: what stands between tokens.
func TestBetween(t *testing.T) {
	for text, want := range map[string]string{
		"a b":             `name "a"0, name "b"2, end ""3`,
		"\ta\r\nb\n":      `name "a"1, name "b"4, end ""6`,
		"a//b":            `name "a"0, end ""4`,
		"a//b\nc":         `name "a"0, name "c"5, end ""6`,
		"//\n//\na":       `name "a"6, end ""7`,
		"//a\rb\nc":       `name "c"6, end ""7`,
		"// /* \nc":       `name "c"7, end ""8`,
		"//":              `end ""2`,
		"///*":            `end ""4`,
		"a/*b*/c":         `name "a"0, name "c"6, end ""7`,
		"1/**/2":          `num "1"0, num "2"5, end ""6`,
		"/**/":            `end ""4`,
		"/***/":           `end ""5`,
		"/*/*/":           `end ""5`,
		"/*//*/a":         `name "a"6, end ""7`,
		"/* /* */a*/":     `name "a"8, sign "*"9, sign "/"10, end ""11`,
		"/*\n\x00'\xff*/": `end ""8`,
		"//\x00'\xff@":    `end ""6`,
		"a*//*\n*/b":      `name "a"0, sign "*"1, sign "*"6, sign "/"7, name "b"8, end ""9`,
		"a/ *b":           `name "a"0, sign "/"1, sign "*"3, name "b"4, end ""5`,
		"</**/<":          `sign "<"0, sign "<"5, end ""6`,
		"a*/b":            `name "a"0, sign "*"1, sign "/"2, name "b"3, end ""4`,
	} {
		if got := lexed(text); got != want {
			t.Errorf("P5.1: Lex(%q): %s, want %s", text, got, want)
		}
	}
}

// P5.1: what is no token, or goes wrong, at its first byte.
func TestWrong(t *testing.T) {
	for text, at := range map[string]int{
		"@": 0, "a @": 2, "a\n#": 2, "\"a\"": 0, "a?b:c": 1, ":": 0, "$": 0, "`": 0, "\\": 0,
		"\x00": 0, "\x0b": 0, "\x0c": 0, "\x7f": 0, "a\x80": 1, "\xff": 0, "é": 0, "aé": 1, "1é": 1, "+\x00": 1, "-\x00>": 1, "<<\x00": 2,
		"/*": 0, "/*/": 0, "a /*": 2, "a /* *": 2, "/**": 0, "/**/ /* /": 5, "//\n/*": 3,
		"12a": 0, "1_": 0, "1A": 0, "x 08z": 2, "0x": 0, "0x;": 0, "0xg": 0, "0xG": 0, "0x1g": 0, "0x1F": 0, "0xA": 0, "0x_": 0, "0X1": 0, "0x1x": 0, "00x1": 0, "1x1": 0, "0b1": 0, "1f": 0, "1 2a": 2,
		"'": 0, "''": 0, "'''": 0, "'a": 0, "'ab'": 0, "a 'b": 2, "'a''": 3, "'\\'": 0, "'\\n'": 0, "'\n'": 0, "'\x1f'": 0, "'\x7f'": 0, "'\x80'": 0, "'é'": 0, "'a\"": 0, "'/*'*/'": 0,
	} {
		if got, want := lexed(text), wrongAt(api.ErrLex, at); got != want {
			t.Errorf("P5.1: Lex(%q): %s, want %s", text, got, want)
		}
	}
}

// P5.1: names and numbers of the greatest length, and longer ones, which aren't two.
func TestLong(t *testing.T) {
	for _, name := range []string{strings.Repeat("a", 32), "_" + strings.Repeat("9", 31), strings.Repeat("int_", 8)} {
		if got, want := lexed(name), only(api.TName, name); got != want {
			t.Errorf("P5.1: Lex(%q): %s, want %s", name, got, want)
		}
		for _, more := range []string{"a", "0", "_", "Z", strings.Repeat("b", 1000)} {
			if got, want := lexed("; "+name+more), wrongAt(api.ErrLex, 2); got != want {
				t.Errorf("P5.1: Lex(; %s%s): %s, want %s", name, more, got, want)
			}
		}
	}
	for _, num := range []string{"9223372036854775807", "09223372036854775807", strings.Repeat("0", 20), "0x7fffffffffffffff", "0x007fffffffffffffff", "0x" + strings.Repeat("0", 18)} {
		if got, want := lexed(num), only(api.TNum, num); got != want {
			t.Errorf("P5.1: Lex(%q): %s, want %s", num, got, want)
		}
	}
	for _, num := range []string{"9223372036854775808", "18446744073709551616", "99999999999999999999", strings.Repeat("0", 21), "0x8000000000000000", "0xffffffffffffffffff", "0x" + strings.Repeat("0", 19), strings.Repeat("1", 1000)} {
		if got, want := lexed("; "+num), wrongAt(api.ErrLex, 2); got != want {
			t.Errorf("P5.1: Lex(; %s): %s, want %s", num, got, want)
		}
	}
}

// P5.1: so many bytes as may be, and one more, whatever they are.
func TestMostText(t *testing.T) {
	for _, c := range []string{" ", "\n", "@", "/", "\xff"} {
		for _, n := range []int{8193, 8194, 100000} {
			if got, want := lexed(strings.Repeat(c, n)), wrongAt(api.ErrFull, 8192); got != want {
				t.Errorf("P5.1: Lex of %d times %q: %s, want %s", n, c, got, want)
			}
		}
	}
	for text, want := range map[string]string{
		strings.Repeat(" ", 8192):                             `end ""8192`,
		strings.Repeat("/", 8192):                             `end ""8192`,
		strings.Repeat("\n", 8191) + ";":                      `sign ";"8191, end ""8192`,
		"/*" + strings.Repeat("/", 8188) + "*/":               `end ""8192`,
		"/*" + strings.Repeat("*", 8190):                      wrongAt(api.ErrLex, 0),
		strings.Repeat(" ", 8191) + "@":                       wrongAt(api.ErrLex, 8191),
		strings.Repeat(" ", 8190) + "/*":                      wrongAt(api.ErrLex, 8190),
		"a" + strings.Repeat("\t", 8190) + "b":                `name "a"0, name "b"8191, end ""8192`,
		"1" + strings.Repeat("\r", 8189) + "<<":               `num "1"0, sign "<<"8190, end ""8192`,
		"@" + strings.Repeat(" ", 8192):                       wrongAt(api.ErrFull, 8192),
		strings.Repeat(";", 2501) + strings.Repeat(" ", 5692): wrongAt(api.ErrFull, 8192),
	} {
		if got := lexed(text); got != want {
			t.Errorf("P5.1: Lex of %d bytes, %.10q: %s, want %s", len(text), text, got, want)
		}
	}
}

// P5.1: so many tokens as may be, which TEnd is none of.
func TestMostTokens(t *testing.T) {
	for _, c := range []string{";", "a ", "9\n", "<<", "'a'", "if ", "||"} {
		text := strings.Repeat(c, 2500)
		l, at, e := lex.Lex(text)
		if len(l) != 2501 || at != 0 || e != api.OK || l[2500] != (api.Token{At: len(text)}) {
			t.Errorf("P5.1: Lex of 2500 times %q: %d tokens, %d, %d", c, len(l), at, e)
		}
		if got, want := lexed(text+c), wrongAt(api.ErrFull, len(text)); got != want {
			t.Errorf("P5.1: Lex of 2501 times %q: %s, want %s", c, got, want)
		}
	}
	for text, want := range map[string]string{
		"":       "",
		" ":      "",
		"/*@*/":  "",
		"//@;":   "",
		";":      wrongAt(api.ErrFull, 2500),
		" \n ;":  wrongAt(api.ErrFull, 2503),
		"/*;*/a": wrongAt(api.ErrFull, 2505),
		";@":     wrongAt(api.ErrFull, 2500),
		"; 12a":  wrongAt(api.ErrFull, 2500),
		";;;/*":  wrongAt(api.ErrFull, 2500),
		"@":      wrongAt(api.ErrLex, 2500),
		" 12a":   wrongAt(api.ErrLex, 2501),
		"/*":     wrongAt(api.ErrLex, 2500),
		"'":      wrongAt(api.ErrLex, 2500),
	} {
		l, at, e := lex.Lex(strings.Repeat(";", 2500) + text)
		if want == "" {
			if len(l) != 2501 || at != 0 || e != api.OK || l[2500] != (api.Token{At: 2500 + len(text)}) {
				t.Errorf("P5.1: Lex of 2500 and %q: %d tokens, %d, %d", text, len(l), at, e)
			}
		} else if got := told(l, at, e); got != want {
			t.Errorf("P5.1: Lex of 2500 and %q: %s, want %s", text, got, want)
		}
	}
}

// P5.1: of several things that are wrong the first from the front.
func TestWrongTwice(t *testing.T) {
	for text, want := range map[string]string{
		"@ 12a":                               wrongAt(api.ErrLex, 0),
		"12a @":                               wrongAt(api.ErrLex, 0),
		"a /* @":                              wrongAt(api.ErrLex, 2),
		"a @ /*":                              wrongAt(api.ErrLex, 2),
		"//@\n/**/ 1_ '":                      wrongAt(api.ErrLex, 9),
		"@" + strings.Repeat(";", 3000):       wrongAt(api.ErrLex, 0),
		strings.Repeat(";", 2499) + "@;;;":    wrongAt(api.ErrLex, 2499),
		strings.Repeat(";", 2501) + "@":       wrongAt(api.ErrFull, 2500),
		"@" + strings.Repeat(";", 8192):       wrongAt(api.ErrFull, 8192),
		strings.Repeat("a", 40) + " '":        wrongAt(api.ErrLex, 0),
		"' " + strings.Repeat("a", 40):        wrongAt(api.ErrLex, 0),
		strings.Repeat("1", 9000) + "@ 1a /*": wrongAt(api.ErrFull, 8192),
	} {
		if got := lexed(text); got != want {
			t.Errorf("P5.1: Lex(%.20q): %s, want %s", text, got, want)
		}
	}
}

// P5.1: what a TNum means.
func TestMean(t *testing.T) {
	for s, want := range map[string]uint64{
		"0": 0, "7": 7, "12": 12, "007": 7, "010": 10, "1234567890": 1234567890, "9223372036854775807": 1<<63 - 1,
		"00000000000000000009": 9, "09223372036854775807": 1<<63 - 1,
		"0x0": 0, "0x1f": 31, "0xf": 15, "0xabcdef": 0xabcdef, "0x10": 16, "0x00f": 15, "0x0123456789abcdef": 0x0123456789abcdef,
		"0x7fffffffffffffff": 1<<63 - 1, "0x007fffffffffffffff": 1<<63 - 1, "0x000000000000000009": 9,
		"'A'": 65, "' '": 32, "'~'": 126, "'\"'": 34, "'0'": 48, "'&'": 38, "'('": 40, "'['": 91, "']'": 93, "'a'": 97,
	} {
		if n, e := lex.Mean(s); n != want || e != api.OK {
			t.Errorf("P5.1: Mean(%s): %d, %d, want %d", s, n, e, want)
		}
	}
}

// P5.1, R3: what is no TNum, as a whole.
func TestMeansNothing(t *testing.T) {
	for _, s := range []string{
		"", " ", "a", "x", "_", "-1", "+1", " 1", "1 ", "1\n", "1;", "1 2", "1.5", "1e3", "1_0", "12a", "a12", "1\x00", "\x00", "/**/1", "1//",
		"0x", "x1", "0x ", "0xg", "0x1g", "0X1", "0x1F", "0xA", "00x1", "0x0x1", "-0x1", "0x-1", "0x+1", "0x1_0", "0b1", "1x1",
		"9223372036854775808", "18446744073709551615", "18446744073709551616", "18446744073709551617", "99999999999999999999",
		"000000000000000000000", "000000000000000000001", "0x8000000000000000", "0xffffffffffffffff", "0x10000000000000000", "0x10000000000000001", "0xffffffffffffffffff", "0x0000000000000000001", "0x00000000000000000000",
		"'", "''", "'''", "'a", "a'", "'ab'", "'a'b", "'a''", "'a' ", " 'a'", "'\\'", "'\\n'", "'\n'", "'\x1f'", "'\x7f'", "'\x80'", "'é'", "\"a\"", "`a`", "'a`", "`a'",
		"int", "+", "\xff", "١",
		strings.Repeat("0", 1<<16), "0x" + strings.Repeat("f", 1<<16), strings.Repeat("'", 1<<16),
	} {
		if n, e := lex.Mean(s); n != 0 || e != api.ErrLex {
			t.Errorf("P5.1: Mean(%.30q): %d, %d", s, n, e)
		}
	}
}

// P5.1: each byte between two ', for Lex as for Mean.
func TestQuoted(t *testing.T) {
	for c := range 256 {
		s := string([]byte{'\'', byte(c), '\''})
		want, mean, wrong := only(api.TNum, s), uint64(c), api.OK
		if c < 32 || c > 126 || c == '\'' || c == '\\' {
			want, mean, wrong = wrongAt(api.ErrLex, 0), 0, api.ErrLex
		}
		if got := lexed(s); got != want {
			t.Errorf("P5.1: Lex(%q): %s, want %s", s, got, want)
		}
		if n, e := lex.Mean(s); n != mean || e != wrong {
			t.Errorf("P5.1: Mean(%q): %d, %d, want %d, %d", s, n, e, mean, wrong)
		}
	}
}
