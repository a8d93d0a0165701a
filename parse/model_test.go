package parse_test

import (
	"math/rand"
	"slices"
	"strings"
	"testing"

	"hauberk/api"
	"hauberk/lex"
	"hauberk/parse"
)

// rows are the chapter's, and below them what it says of stars, lengths, params and arguments: star5 is the fifth star, full what is one too many.
const rows = `
program = {top}
top     = 'struct' name '{' {type name ';'} '}' ';' | type name ( [ '[' len ']' ] ';' | '(' [params] ')' block )
type    = ( 'void' | 'char' | 'int' | 'long' | 'struct' name ) ['*' ['*' ['*' ['*' [star5]]]]]
param   = type name
block   = '{' {stmt} '}'
stmt    = block | 'if' '(' expr ')' stmt ['else' stmt] | 'while' '(' expr ')' stmt | 'return' [expr] ';' | 'break' ';' | 'continue' ';' | type name ['[' len ']'] ['=' expr] ';' | [expr] ';'
expr    = unary {op unary} ['=' expr]
op      = '||' | '&&' | '|' | '^' | '&' | '==' | '!=' | '<' | '<=' | '>' | '>=' | '<<' | '>>' | '+' | '-' | '*' | '/' | '%'
unary   = ( '-' | '~' | '!' | '*' | '&' ) unary | 'sizeof' '(' type ')' | '(' type ')' ( 'malloc' '(' expr ')' | unary ) | post
post    = atom { '[' expr ']' | '.' name | '->' name }
atom    = num | name | name '(' [args] ')' | '(' expr ')'
params  = param [',' param [',' param [',' param [',' param [',' param [',' full]]]]]]
args    = expr [',' expr [',' expr [',' expr [',' expr [',' expr [',' full]]]]]]
`

// shape is a piece of a row: a sequence, a choice, what may lack, what comes any number of times, a row's name, or one token.
type shape struct {
	kind string
	text string
	kids []*shape
}

// rowReader reads rows.
type rowReader struct{ words []string }

func (r *rowReader) next() string {
	w := r.words[0]
	r.words = r.words[1:]
	return w
}

func (r *rowReader) choice(end string) *shape {
	x := &shape{kind: "choice", kids: []*shape{{kind: "sequence"}}}
	for {
		last := x.kids[len(x.kids)-1]
		switch w := r.next(); w {
		case end:
			return x
		case "|":
			x.kids = append(x.kids, &shape{kind: "sequence"})
		case "(":
			last.kids = append(last.kids, r.choice(")"))
		case "[":
			last.kids = append(last.kids, &shape{kind: "lacks", kids: []*shape{r.choice("]")}})
		case "{":
			last.kids = append(last.kids, &shape{kind: "many", kids: []*shape{r.choice("}")}})
		case "name", "num", "len", "star5", "full":
			last.kids = append(last.kids, &shape{kind: w})
		default:
			kind := "row"
			if w[0] == '\'' {
				kind = "token"
			}
			last.kids = append(last.kids, &shape{kind: kind, text: strings.Trim(w, "'")})
		}
	}
}

// wordsOf are the words of a row, quoted ones with their quotes.
func wordsOf(row string) []string {
	l := []string{}
	for i, part := range strings.Split(row, "'") {
		if i%2 == 1 {
			l = append(l, "'"+part+"'")
			continue
		}
		for _, c := range "()[]{}|" {
			part = strings.ReplaceAll(part, string(c), " "+string(c)+" ")
		}
		l = append(l, strings.Fields(part)...)
	}
	return append(l, ".")
}

type grammar map[string]*shape

func readRows() grammar {
	g := grammar{}
	for row := range strings.SplitSeq(strings.TrimSpace(rows), "\n") {
		name, text, _ := strings.Cut(row, "=")
		r := rowReader{wordsOf(text)}
		g[strings.TrimSpace(name)] = r.choice(".")
	}
	return g
}

// stack is what is still to come: a shape, how deep it stands, and what is to come behind it.
type stack struct {
	*shape
	deep   int
	behind *stack
}

// open is what may stand at a place: tokens, the end, something that is too deep.
type open struct {
	tops    []*stack
	ends    bool
	tooDeep bool
}

func (g grammar) open(s *stack, o *open) {
	if s == nil {
		o.ends = true
		return
	}
	switch s.kind {
	case "choice":
		for _, k := range s.kids {
			g.open(&stack{k, s.deep, s.behind}, o)
		}
	case "sequence":
		behind := s.behind
		for _, k := range slices.Backward(s.kids) {
			behind = &stack{k, s.deep, behind}
		}
		g.open(behind, o)
	case "lacks":
		g.open(&stack{s.kids[0], s.deep, s.behind}, o)
		g.open(s.behind, o)
	case "many":
		g.open(&stack{s.kids[0], s.deep, s}, o)
		g.open(s.behind, o)
	case "row":
		deep := s.deep
		if s.text == "stmt" || s.text == "expr" || s.text == "unary" {
			deep++
		}
		if deep > 40 {
			o.tooDeep = true
			return
		}
		g.open(&stack{g[s.text], deep, s.behind}, o)
	default:
		o.tops = append(o.tops, s)
	}
}

func fits(s *shape, t api.Token) bool {
	n, _ := lex.Mean(t.Text)
	switch s.kind {
	case "name":
		return t.Kind == api.TName
	case "num":
		return t.Kind == api.TNum
	case "len":
		return t.Kind == api.TNum && n >= 1 && n <= 500
	}
	return s.kind == "token" && t.Text == s.text
}

// fault is what is wrong at a token that fits nothing.
func (o *open) fault(t api.Token) api.Errno {
	has := func(kind string) bool {
		return slices.ContainsFunc(o.tops, func(s *stack) bool { return s.kind == kind })
	}
	switch {
	case o.tooDeep:
		return api.ErrDeep
	case has("star5") && t.Text == "*", has("len") && t.Kind == api.TNum:
		return api.ErrRange
	case has("full"):
		return api.ErrFull
	}
	return api.ErrSyntax
}

// model tells by the rows what is the first token that is wrong, and how: of all that may be to come, what each token leaves is kept.
func (g grammar) model(text string) (int, api.Errno) {
	tokens, at, e := lex.Lex(text)
	if e != api.OK {
		return at, e
	}
	stacks := []*stack{{shape: g["program"]}}
	for _, t := range tokens {
		o := open{}
		for _, s := range stacks {
			g.open(s, &o)
		}
		if t.Kind == api.TEnd && o.ends {
			return 0, api.OK
		}
		stacks = nil
		for _, s := range o.tops {
			if fits(s.shape, t) {
				stacks = append(stacks, s.behind)
			}
		}
		if len(stacks) == 0 {
			return t.At, o.fault(t)
		}
		if t.Text == "else" {
			stacks = stacks[:1] // an else is the innermost's: with that all can come that can without
		}
	}
	panic("a text has no end")
}

func (g grammar) compare(t *testing.T, text string) (int, api.Errno) {
	t.Helper()
	place, e := g.model(text)
	p, at, wrong := parse.Parse(text)
	if at != place || wrong != e {
		t.Fatalf("P6.1: Parse(%q): %d at %d, want %d at %d", text, wrong, at, e, place)
	}
	if e != api.OK && len(p.Structs)+len(p.Vars)+len(p.Funcs) != 0 {
		t.Fatalf("P7: R3: Parse(%q): %v beside %d", text, p, e)
	}
	return place, e
}

// all are tokens of each kind that stands in a row.
func all() []string {
	return strings.Fields("int void struct if else while return break continue sizeof malloc a 1 501 - ! * & + = == && ( ) { } [ ] ; , . ->")
}

// walk compares a text with all tokens behind it, and all behind these, and so on, as long as what there is isn't wrong.
func (g grammar) walk(t *testing.T, text string, n int) {
	for _, token := range all() {
		longer := text + " " + token
		place, e := g.compare(t, longer)
		if n > 1 && (e == api.OK || place == len(longer)) {
			g.walk(t, longer, n-1)
		}
	}
}

// P6.1: what can go on texts, token by token, all ways, against the chapter's rows.
func TestAllGoOn(t *testing.T) {
	g := readRows()
	for _, text := range []string{"", "struct s", "struct s {", "int f (", "int f ( ) {"} {
		g.walk(t, text, 4)
	}
	for _, text := range []string{"if ( 1 )", "if ( 1 ) ; else", "while ( 1 )", "return", "int a", "int a [", "a", "a = b", "a +", "( int", "( int )", "( int ) malloc ( 1 )", "sizeof (", "f (", "f ( 1 ,", "a [ 1", "a .", "- a", "( a", "{ ; }"} {
		g.walk(t, before+" "+text, 3)
	}
}

// nested is a text that goes so deep with statements, and on with expressions.
func nested(r *rand.Rand, n int) string {
	b := strings.Builder{}
	for range n {
		b.WriteString([]string{"{", "if(1)", "while(a)", "if(1);else ", "1;"}[r.Intn(5)])
	}
	for range r.Intn(20) {
		b.WriteString([]string{"~", "- ", "(", "a[", "f(", "f(1,", "(int*)", "(int)malloc(", "a=", "a+", "1*1|", "a.b&&"}[r.Intn(12)])
	}
	return b.String()
}

// P6.1: what can go on texts that are as deep as may be, or nearly so, against the chapter's rows.
func TestDeepGoesOn(t *testing.T) {
	g := readRows()
	seen := map[api.Errno]int{}
	for seed := range int64(100) {
		r := rand.New(rand.NewSource(seed))
		text := before + nested(r, 15+r.Intn(35))
		for _, token := range all() {
			for _, s := range []string{text + " " + token, closed(text + " " + token)} {
				_, e := g.compare(t, s)
				seen[e]++
			}
		}
	}
	if seen[api.ErrDeep] < 500 || seen[api.OK] < 100 || seen[api.ErrSyntax] < 1000 {
		t.Errorf("the samples are lopsided: %v", seen)
	}
	for seed := range int64(3) {
		r := rand.New(rand.NewSource(seed))
		text := before
		for n := 20; n < 80; n++ {
			more := before + nested(r, n/2)
			if _, e := g.compare(t, closed(more)); e != api.ErrDeep {
				text = more
			}
		}
		g.walk(t, text, 2)
	}
}

// P6.1: texts of tokens in any order, against the chapter's rows.
func TestRandomTokens(t *testing.T) {
	g := readRows()
	for seed := range int64(6000) {
		r := rand.New(rand.NewSource(seed))
		l := []string{}
		for range r.Intn(12) {
			l = append(l, all()[r.Intn(len(all()))])
		}
		text := strings.Join(l, " ")
		g.compare(t, text)
		g.compare(t, before+text+"}")
	}
}
