package check_test

import (
	"slices"
	"strconv"
	"strings"
	"testing"

	"hauberk/api"
	"hauberk/check"
	"hauberk/parse"
)

// shownType is a type as it is written, a struct's by its name alone.
func shownType(t api.Type) string {
	names := []string{"void", "char", "int", "long", t.Struct}
	return names[t.Base] + strings.Repeat("*", t.Stars)
}

// shownExpr is an expression with all Types told, its operator ahead of its kids; an array's name has [] behind it.
func shownExpr(x api.Expr) string {
	heads := map[int]string{api.EUnary: x.Op, api.EBinary: x.Op, api.EAssign: "=", api.ECall: x.Name, api.EIndex: "index", api.EField: "." + x.Name, api.ECast: "cast", api.EMalloc: "malloc"}
	s := ""
	switch x.Kind {
	case api.ENum:
		s = strconv.FormatUint(x.Num, 10)
	case api.ESize:
		s = "size " + strconv.FormatUint(x.Num, 10)
	case api.EName:
		s = x.Name + strings.Repeat("[]", int(x.Num))
	default:
		s = "(" + heads[x.Kind]
		for _, k := range x.Kids {
			s += " " + shownExpr(k)
		}
		s += ")"
	}
	return s + ":" + shownType(x.Type)
}

func shownStmt(s api.Stmt) string {
	heads := map[int]string{api.SBlock: "block", api.SIf: "if", api.SWhile: "while", api.SReturn: "return", api.SBreak: "break", api.SContinue: "continue", api.SExpr: "expr", api.SLocal: "local"}
	text := "(" + heads[s.Kind]
	if s.Kind == api.SLocal {
		text += " " + shownType(s.Var.Type) + " " + s.Var.Name
	}
	for _, x := range s.Exprs {
		text += " " + shownExpr(x)
	}
	for _, k := range s.Kids {
		text += " " + shownStmt(k)
	}
	return text + ")"
}

// wrong is how an error is shown.
func wrong(at int, e api.Errno) string {
	names := map[api.Errno]string{api.ErrFull: "full", api.ErrName: "name", api.ErrType: "type", api.ErrMain: "main"}
	return names[e] + " at " + strconv.Itoa(at)
}

// checked parses a text, which must be a program's, and checks it.
func checked(t *testing.T, text string) (api.Program, int, api.Errno) {
	t.Helper()
	p, at, e := parse.Parse(text)
	if e != api.OK {
		t.Fatalf("Parse(%q): %d, %d", text, at, e)
	}
	return check.Check(p)
}

// tops are what the expressions of these tests may name.
const tops = `struct s { char c; long n; struct s *next; int *q; int ****deep; };
char c; int i; long l; char *pc; int *pi; long *pl; void *v; void **vv; int ****deep;
struct s s1; struct s *ps; struct s **pps; int a[3]; struct s as[2]; long ***dd[2]; int ****a4[2]; void *av[2];
void none() { } int one(int x) { return x; } long two(char x, long *p) { return x; } int *pointer() { return pi; }
void takes(void *p, struct s *q) { }
`

// ofExpr is what an expression becomes, as a statement of its own; a place is told from its beginning.
func ofExpr(t *testing.T, text string) string {
	t.Helper()
	ahead := tops + "int main() { "
	p, at, e := checked(t, ahead+text+"; return 0; }")
	if e != api.OK {
		return wrong(at-len(ahead), e)
	}
	return shownExpr(p.Funcs[len(p.Funcs)-1].Body.Kids[0].Exprs[0])
}

func testExprs(t *testing.T, rows [][2]string) {
	t.Helper()
	for _, r := range rows {
		if got := ofExpr(t, r[0]); got != r[1] {
			t.Errorf("P7.1: %s: %s, want %s", r[0], got, r[1])
		}
	}
}

// P7.1: numbers, names and sizes.
func TestAtoms(t *testing.T) {
	testExprs(t, [][2]string{
		{"0", "0:int"}, {"2147483647", "2147483647:int"}, {"2147483648", "2147483648:long"}, {"9223372036854775807", "9223372036854775807:long"}, {"'a'", "97:int"},
		{"c", "c:char"}, {"l", "l:long"}, {"pps", "pps:s**"}, {"v", "v:void*"},
		{"a", "a[]:int*"}, {"as", "as[]:s*"}, {"dd", "dd[]:long****"}, {"av", "av[]:void**"},
		{"a4", "type at 0"}, {"a4[0]", "type at 0"}, {"1 + !a4", "type at 5"},
		{"s1", "type at 0"}, {"x", "name at 0"}, {"one", "name at 0"}, {"free", "name at 0"}, {"main", "name at 0"}, {"s", "name at 0"}, {"next", "name at 0"},
		{"sizeof(char)", "size 1:long"}, {"sizeof(int)", "size 4:long"}, {"sizeof(long)", "size 8:long"}, {"sizeof(void *)", "size 8:long"},
		{"sizeof(struct s)", "size 40:long"}, {"sizeof(struct s ****)", "size 8:long"},
		{"sizeof(void)", "type at 0"}, {"sizeof(struct t)", "type at 0"}, {"sizeof(struct t *)", "type at 0"}, {"c + sizeof(struct t)", "type at 4"},
	})
}

// P7.1: operators of one operand.
func TestUnary(t *testing.T) {
	testExprs(t, [][2]string{
		{"-c", "(- (cast c:char):int):int"}, {"-i", "(- i:int):int"}, {"-l", "(- l:long):long"}, {"~c", "(~ (cast c:char):int):int"}, {"~l", "(~ l:long):long"},
		{"- -c", "(- (- (cast c:char):int):int):int"},
		{"-pi", "type at 0"}, {"~v", "type at 0"}, {"-s1", "type at 0"}, {"-none()", "type at 0"}, {"-a", "type at 0"},
		{"!c", "(! c:char):int"}, {"!l", "(! l:long):int"}, {"!pi", "(! pi:int*):int"}, {"!v", "(! v:void*):int"}, {"!a", "(! a[]:int*):int"}, {"!0", "(! 0:int):int"},
		{"!s1", "type at 0"}, {"!none()", "type at 0"},
		{"*pi", "(* pi:int*):int"}, {"*vv", "(* vv:void**):void*"}, {"*a", "(* a[]:int*):int"}, {"*deep", "(* deep:int****):int***"},
		{"****deep", "(* (* (* (* deep:int****):int***):int**):int*):int"}, {"*av", "(* av[]:void**):void*"},
		{"*v", "type at 0"}, {"*i", "type at 0"}, {"*0", "type at 0"}, {"*s1", "type at 0"}, {"*none()", "type at 0"}, {"*ps", "type at 0"}, {"**vv", "type at 0"}, {"!*v", "type at 1"},
	})
}

// P7.1: lvalues, and where they are.
func TestLvalues(t *testing.T) {
	testExprs(t, [][2]string{
		{"&c", "(& c:char):char*"}, {"&s1", "(& s1:s):s*"}, {"&*pi", "(& (* pi:int*):int):int*"}, {"&a[1]", "(& (index a[]:int* (cast 1:int):long):int):int*"},
		{"&s1.n", "(& (.n s1:s):long):long*"}, {"&*ps", "(& (* ps:s*):s):s*"}, {"&v", "(& v:void*):void**"},
		{"&as[1]", "(& (index as[]:s* (cast 1:int):long):s):s*"}, {"&*deep", "(& (* deep:int****):int***):int****"},
		{"&a", "type at 0"}, {"&deep", "type at 0"}, {"&ps->deep", "type at 0"}, {"&1", "type at 0"}, {"&-i", "type at 0"}, {"&!i", "type at 0"},
		{"&(i + 1)", "type at 0"}, {"&(i = 1)", "type at 0"}, {"&one(1)", "type at 0"}, {"&(char) i", "type at 0"}, {"&sizeof(int)", "type at 0"},
		{"&(int *) malloc(1)", "type at 0"}, {"& &c", "type at 0"}, {"&one", "name at 1"},
		{"(*&s1).c", "(.c (* (& s1:s):s*):s):char"}, {"*&i = 1", "(= (* (& i:int):int*):int 1:int):int"},
		{"i = l", "(= i:int (cast l:long):int):int"}, {"c = 300", "(= c:char (cast 300:int):char):char"},
		{"l = i = c", "(= l:long (cast (= i:int (cast c:char):int):int):long):long"}, {"c = c", "(= c:char c:char):char"},
		{"l = 0", "(= l:long (cast 0:int):long):long"},
		{"pi = a", "(= pi:int* a[]:int*):int*"}, {"pi = 0", "(= pi:int* 0:int*):int*"}, {"v = (0)", "(= v:void* 0:void*):void*"},
		{"v = 0x0", "(= v:void* 0:void*):void*"}, {"*vv = v", "(= (* vv:void**):void* v:void*):void*"}, {"ps->next = ps", "(= (.next (* ps:s*):s):s* ps:s*):s*"},
		{"a[1] = l", "(= (index a[]:int* (cast 1:int):long):int (cast l:long):int):int"}, {"pi = pi = 0", "(= pi:int* (= pi:int* 0:int*):int*):int*"},
		{"1 = 2", "type at 0"}, {"-i = 1", "type at 0"}, {"&i = pi", "type at 0"}, {"!i = 1", "type at 0"}, {"(i = 1) = 2", "type at 1"},
		{"one(1) = 1", "type at 0"}, {"(char) i = 1", "type at 0"}, {"i + 1 = 1", "type at 0"}, {"a = 0", "type at 0"}, {"a = pi", "type at 0"},
		{"sizeof(int) = 1", "type at 0"}, {"one = 1", "name at 0"},
		{"pi = 1", "type at 0"}, {"pi = -0", "type at 0"}, {"pi = 0 + 0", "type at 0"}, {"pi = (long) 0", "type at 0"}, {"pi = i", "type at 0"},
		{"pi = pl", "type at 0"}, {"v = pi", "type at 0"}, {"pi = v", "type at 0"}, {"pi = vv", "type at 0"}, {"i = pi", "type at 0"}, {"i = v", "type at 0"},
		{"i = none()", "type at 0"}, {"s1 = s1", "type at 0"}, {"s1 = 0", "type at 0"}, {"i = s1", "type at 0"}, {"*ps = as[1]", "type at 0"},
		{"i = a", "type at 0"},
	})
}

// P7.1: operators of two operands.
func TestBinary(t *testing.T) {
	for _, op := range strings.Fields("+ - * / % & ^ |") {
		testExprs(t, [][2]string{
			{"i " + op + " i", "(" + op + " i:int i:int):int"}, {"c " + op + " c", "(" + op + " (cast c:char):int (cast c:char):int):int"},
			{"i " + op + " l", "(" + op + " (cast i:int):long l:long):long"}, {"l " + op + " c", "(" + op + " l:long (cast c:char):long):long"},
			{"s1 " + op + " 1", "type at 0"}, {"1 " + op + " s1", "type at 0"}, {"none() " + op + " 1", "type at 0"}, {"1 " + op + " none()", "type at 0"},
			{"pi " + op + " pi", "type at 0"}, {"i " + op + " pi", "type at 0"}, {"l " + op + " pl", "type at 0"}, {"0 " + op + " pi", "type at 0"},
			{"v " + op + " 1", "type at 0"}, {"v " + op + " 0", "type at 0"},
		})
		if op == "+" || op == "-" {
			testExprs(t, [][2]string{
				{"pi " + op + " c", "(" + op + " pi:int* (cast c:char):long):int*"}, {"ps " + op + " l", "(" + op + " ps:s* l:long):s*"},
				{"a " + op + " 0", "(" + op + " a[]:int* (cast 0:int):long):int*"}, {"vv " + op + " l", "(" + op + " vv:void** l:long):void**"},
				{"pl " + op + " none()", "type at 0"}, {"pl " + op + " s1", "type at 0"},
			})
		} else {
			testExprs(t, [][2]string{{"pi " + op + " 1", "type at 0"}, {"a " + op + " 0", "type at 0"}})
		}
	}
	for _, op := range []string{"<<", ">>"} {
		testExprs(t, [][2]string{
			{"c " + op + " i", "(" + op + " (cast c:char):int (cast i:int):long):int"}, {"i " + op + " l", "(" + op + " i:int l:long):int"},
			{"l " + op + " c", "(" + op + " l:long (cast c:char):long):long"},
			{"pi " + op + " 1", "type at 0"}, {"1 " + op + " pi", "type at 0"}, {"l " + op + " v", "type at 0"}, {"s1 " + op + " 1", "type at 0"}, {"1 " + op + " none()", "type at 0"},
		})
	}
	for _, op := range []string{"<", "<=", ">", ">=", "==", "!="} {
		testExprs(t, [][2]string{
			{"c " + op + " c", "(" + op + " (cast c:char):int (cast c:char):int):int"}, {"c " + op + " l", "(" + op + " (cast c:char):long l:long):int"},
			{"l " + op + " l", "(" + op + " l:long l:long):int"}, {"0 " + op + " 0", "(" + op + " 0:int 0:int):int"},
			{"l " + op + " 0", "(" + op + " l:long (cast 0:int):long):int"},
			{"pi " + op + " pi", "type at 0"}, {"pi " + op + " 1", "type at 0"}, {"1 " + op + " pi", "type at 0"}, {"pi " + op + " i", "type at 0"},
			{"pi " + op + " (0 + 0)", "type at 0"}, {"s1 " + op + " 0", "type at 0"}, {"s1 " + op + " s1", "type at 0"}, {"none() " + op + " 0", "type at 0"},
			{"0 " + op + " none()", "type at 0"},
		})
		if op == "==" || op == "!=" {
			testExprs(t, [][2]string{
				{"pi " + op + " 0", "(" + op + " pi:int* 0:int*):int"}, {"0 " + op + " v", "(" + op + " 0:void* v:void*):int"}, {"a " + op + " ' '", "type at 0"},
				{"0 " + op + " a", "(" + op + " 0:int* a[]:int*):int"},
			})
		} else {
			testExprs(t, [][2]string{{"pi " + op + " 0", "type at 0"}, {"0 " + op + " v", "type at 0"}})
		}
	}
	for _, op := range []string{"&&", "||"} {
		testExprs(t, [][2]string{
			{"c " + op + " l", "(" + op + " c:char l:long):int"}, {"pi " + op + " c", "(" + op + " pi:int* c:char):int"},
			{"0 " + op + " v", "(" + op + " 0:int v:void*):int"}, {"a " + op + " vv", "(" + op + " a[]:int* vv:void**):int"},
			{"s1 " + op + " 1", "type at 0"}, {"1 " + op + " s1", "type at 0"}, {"none() " + op + " 1", "type at 0"}, {"1 " + op + " none()", "type at 0"},
		})
	}
}

// P7.1: indices, fields, casts, malloc.
func TestParts(t *testing.T) {
	testExprs(t, [][2]string{
		{"a[c]", "(index a[]:int* (cast c:char):long):int"}, {"pl[l]", "(index pl:long* l:long):long"}, {"vv[0]", "(index vv:void** (cast 0:int):long):void*"},
		{"as[1].n", "(.n (index as[]:s* (cast 1:int):long):s):long"}, {"dd[1]", "(index dd[]:long**** (cast 1:int):long):long***"},
		{"pps[1]->next", "(.next (* (index pps:s** (cast 1:int):long):s*):s):s*"},
		{"v[0]", "type at 0"}, {"i[a]", "type at 0"}, {"0[a]", "type at 0"}, {"i[1]", "type at 0"}, {"a[pi]", "type at 0"}, {"a[none()]", "type at 0"},
		{"a[s1]", "type at 0"}, {"s1[0]", "type at 0"}, {"none()[0]", "type at 0"}, {"as[1]", "type at 0"}, {"a[x]", "name at 2"},
		{"s1.c", "(.c s1:s):char"}, {"ps->q", "(.q (* ps:s*):s):int*"}, {"(*ps).n", "(.n (* ps:s*):s):long"},
		{"s1.next->next->c", "(.c (* (.next (* (.next s1:s):s*):s):s*):s):char"}, {"s1.deep", "(.deep s1:s):int****"},
		{"ps[0].q[1]", "(index (.q (index ps:s* (cast 0:int):long):s):int* (cast 1:int):long):int"},
		{"s1.x", "name at 0"}, {"s1.s", "name at 0"}, {"ps->x", "name at 0"}, {"1 + as[0].x", "name at 4"},
		{"ps.c", "type at 0"}, {"as.c", "type at 0"}, {"i.c", "type at 0"}, {"v.c", "type at 0"}, {"none().c", "type at 0"}, {"s1->c", "type at 0"},
		{"i->c", "type at 0"}, {"v->c", "type at 0"}, {"pps->c", "type at 0"}, {"s1.c.c", "type at 0"}, {"x.c", "name at 0"},
		{"(char) l", "(cast l:long):char"}, {"(long) 0", "(cast 0:int):long"}, {"(int) i", "(cast i:int):int"},
		{"(int) (char) i", "(cast (cast i:int):char):int"}, {"l = (char) i", "(= l:long (cast (cast i:int):char):long):long"},
		{"l + (long) i", "(+ l:long (cast i:int):long):long"},
		{"(int) pi", "type at 0"}, {"(int *) pi", "type at 0"}, {"(int *) 0", "type at 0"}, {"(char *) 1", "type at 0"}, {"(void) i", "type at 0"},
		{"(void *) 0", "type at 0"}, {"(struct s) 0", "type at 0"}, {"(struct t) 0", "type at 0"}, {"(struct t *) 0", "type at 0"},
		{"(struct s *) 0", "type at 0"}, {"(int) s1", "type at 0"}, {"(int) none()", "type at 0"}, {"(struct t) x", "name at 11"},
		{"(int *) malloc(8)", "(malloc (cast 8:int):long):int*"}, {"(void **) malloc(l)", "(malloc l:long):void**"},
		{"(struct s *) malloc(sizeof(struct s))", "(malloc size 40:long):s*"}, {"(int ****) malloc(c)", "(malloc (cast c:char):long):int****"},
		{"((int *) malloc(8))[1]", "(index (malloc (cast 8:int):long):int* (cast 1:int):long):int"},
		{"(void *) malloc(8)", "type at 0"}, {"(int) malloc(8)", "type at 0"}, {"(void) malloc(8)", "type at 0"}, {"(struct s) malloc(8)", "type at 0"},
		{"(struct t *) malloc(8)", "type at 0"}, {"(struct t **) malloc(8)", "type at 0"}, {"(int *) malloc(pi)", "type at 0"},
		{"(int *) malloc(none())", "type at 0"}, {"(int *) malloc(s1)", "type at 0"}, {"(void *) malloc(x)", "name at 16"},
	})
}

// P7.1: calls, also of what is known from the beginning.
func TestCalls(t *testing.T) {
	testExprs(t, [][2]string{
		{"one(c)", "(one (cast c:char):int):int"}, {"two(l, 0)", "(two (cast l:long):char 0:long*):long"},
		{"two(0, pl)", "(two (cast 0:int):char pl:long*):long"}, {"none()", "(none):void"}, {"pointer()[1]", "(index (pointer):int* (cast 1:int):long):int"},
		{"takes(v, &s1)", "(takes v:void* (& s1:s):s*):void"}, {"takes(0, as)", "(takes 0:void* as[]:s*):void"}, {"main()", "(main):int"},
		{"one(one(c))", "(one (one (cast c:char):int):int):int"},
		{"one()", "type at 0"}, {"one(1, 2)", "type at 0"}, {"none(1)", "type at 0"}, {"one(pi)", "type at 0"}, {"one(none())", "type at 0"},
		{"one(s1)", "type at 0"}, {"two(1, pi)", "type at 0"}, {"two(1, 1)", "type at 0"}, {"two(pl, 1)", "type at 0"}, {"takes(pi, ps)", "type at 0"},
		{"takes(v, s1)", "type at 0"}, {"takes(v, none())", "type at 0"}, {"two(1, a)", "type at 0"},
		{"x()", "name at 0"}, {"i()", "name at 0"}, {"s()", "name at 0"}, {"x(y)", "name at 2"}, {"i(one(1, 2))", "type at 2"}, {"x(none(1) + y)", "type at 2"}, {"one(1, 2, x)", "name at 10"},
		{"putchar(c)", "(putchar (cast c:char):int):void"}, {"putchar(l)", "(putchar (cast l:long):int):void"}, {"getchar()", "(getchar):int"}, {"exit('a')", "(exit 97:int):void"},
		{"putchar()", "type at 0"}, {"putchar(1, 2)", "type at 0"}, {"putchar(pi)", "type at 0"}, {"getchar(1)", "type at 0"}, {"exit()", "type at 0"},
		{"exit(v)", "type at 0"}, {"exit(putchar(1))", "type at 0"}, {"1 + putchar(1)", "type at 0"}, {"1 + exit(1)", "type at 0"},
		{"1 + free(pi)", "type at 0"}, {"putchar", "name at 0"},
		{"free(pi)", "(free pi:int*):void"}, {"free(a)", "(free a[]:int*):void"}, {"free(vv)", "(free vv:void**):void"},
		{"free(deep)", "(free deep:int****):void"}, {"free(pps)", "(free pps:s**):void"}, {"free(pi = 0)", "(free (= pi:int* 0:int*):int*):void"},
		{"free(&s1)", "(free (& s1:s):s*):void"},
		{"free(v)", "type at 0"}, {"free(*vv)", "type at 0"}, {"free(0)", "type at 0"}, {"free(1)", "type at 0"}, {"free(i)", "type at 0"},
		{"free(s1)", "type at 0"}, {"free(none())", "type at 0"}, {"free()", "type at 0"}, {"free(pi, pi)", "type at 0"}, {"free(x)", "name at 5"},
	})
}

// P7.1: of several that are wrong in an expression the first is told: its Kids in order, each with all within it, then itself.
func TestFirstOfExprs(t *testing.T) {
	testExprs(t, [][2]string{
		{"x + y", "name at 0"}, {"pi * x", "name at 5"}, {"pi * pi + x", "type at 0"}, {"1 = x", "name at 4"}, {"x = 1 = 2", "name at 0"},
		{"i = 1 = x", "name at 8"}, {"i = 1 = 2", "type at 4"}, {"s1.x + y", "name at 0"}, {"-pi + x", "type at 0"}, {"v[x]", "name at 2"},
		{"v[*v]", "type at 2"}, {"x[*v]", "name at 0"}, {"!(1 + s1) + x", "type at 2"}, {"one(s1.x, y, 3)", "name at 4"}, {"x(*v)", "type at 2"},
		{"*x.c", "name at 1"}, {"one() + one(pi) + x", "type at 0"}, {"1 + one()", "type at 4"},
	})
}

// placed is a text without its @, and where that stood.
func placed(text string) (string, int) {
	at := strings.Index(text, "@")
	return strings.Replace(text, "@", "", 1), max(at, 0)
}

// testPlaces checks texts in which an @ stands at the place of the error.
func testPlaces(t *testing.T, behind string, e api.Errno, texts ...string) {
	t.Helper()
	for _, marked := range texts {
		text, at := placed(marked)
		p, gotAt, got := checked(t, text+behind)
		if got != e || gotAt != at {
			t.Errorf("P7.1: Check(%q): %s, want %s", text+behind, wrong(gotAt, got), wrong(at, e))
		}
		if e != api.OK && (p.Structs != nil || p.Vars != nil || p.Funcs != nil) {
			t.Errorf("P7 (R3): Check(%q): a program beside an error", text+behind)
		}
	}
}

const main = " int main() { return 0; }"

// P7.1: structs, by chapter 4, ahead of all else.
func TestStructs(t *testing.T) {
	testPlaces(t, main, api.OK, "struct s { struct t *t; }; struct t { struct s *s; };", "struct free { int free; }; struct free *x;", "int s; struct s { int s; };")
	testPlaces(t, main, api.ErrFull, "struct @s { };", "int free; struct @s { };", manyStructs(20)+"struct @x { int a; };", "int f() { return x; } struct @s { };")
	testPlaces(t, main, api.ErrName, "struct s { int a; }; struct @s { int a; };", "struct s { int a; @int a; };", "struct s { @struct t *t; };")
	testPlaces(t, main, api.ErrType, "struct s { @void *a; };", "struct s { @struct s a; };", "int x() { } struct s { int a; }; struct t { @struct s a; };")
	testPlaces(t, main, api.OK, manyStructs(20))
}

func manyStructs(n int) string {
	s := ""
	for i := range n {
		s += "struct s" + strconv.Itoa(i) + " { int a; }; "
	}
	return s
}

// P7.1: variables at the top.
func TestVars(t *testing.T) {
	testPlaces(t, main, api.OK, "int a; char b[3]; void *c; void **d; struct s { int a; }; struct s s; struct s ss[500]; struct s **p; int ****e[2];", "struct s s; struct s { int a; };")
	testPlaces(t, main, api.ErrName,
		"int a; @char a;", "int a; long b; @int a[2];", "@int free;", "@int putchar;", "@int getchar;", "@int exit;", "@void free;", "int a; @void a;",
		"int a; @struct t a;", "int f() { return x; } int a; @int a;", "int a; @int a; void b;", "struct s { int a; }; int s; @struct s s;",
	)
	testPlaces(t, main, api.ErrType,
		"@void a;", "@void a[2];", "@struct t a;", "@struct t *a;", "@struct t ****a[2];", "@void a; int a;", "int f() { return x; } @void a;",
		"int free() { } @void a;", "struct s { int a; }; @struct S s;",
	)
}

// P7.1: what functions are called, answer and take.
func TestHeads(t *testing.T) {
	testPlaces(t, main, api.OK,
		"void f() { }", "void *f(void *a, struct s *b) { return a; } struct s { int a; };", "char f(int f) { return f; }",
		"int f(int g, int main) { return main; } int g(int f) { return f; }", "int ****f(int a, int b, int c, int d, int e, char ****f) { return 0; }",
		"int f() { }", "int f(int putchar) { return putchar; }",
	)
	testPlaces(t, main, api.ErrName,
		"int f() { } @char f() { }", "int f; @int f() { }", "@int f() { } int f;", "@int free(int *p) { }", "@void putchar(int c) { }", "@int exit() { }",
		"@int getchar() { }", "int f(int a, @int a) { }", "int f(int a, char b, @long a) { }", "int f; @struct t f() { }", "@struct t free() { }",
		"int f() { return x; } @int f() { }", "int f(int a, @int a, void b) { }", "int f(int a, @int *a) { } int f() { }",
	)
	testPlaces(t, main, api.ErrType,
		"@struct t f() { }", "@struct t *f() { }", "struct s { int a; }; @struct s f() { }", "int f(@void a) { }", "int f(@struct t a) { }",
		"int f(@struct t *a) { }", "struct s { int a; }; int f(@struct s a) { }", "int f(int a, @void a) { }", "int f(int a, @struct t *a) { }",
		"@struct t f(int a, int a) { }", "int f(@void a, int b, int b) { }", "int f() { return x; } int g(@void a) { }",
		"int f() { return x; } @struct t g() { }",
	)
	for _, text := range []string{"int f(int a, int a) { } int f() { } void a;"} {
		if _, at, e := checked(t, text); at != 36 || e != api.ErrType {
			t.Errorf("P7.1: variables come ahead of functions: Check(%q): %s", text, wrong(at, e))
		}
	}
}

// P7.1: main.
func TestMain(t *testing.T) {
	testPlaces(t, "", api.OK, "int main() { }", "int f() { return main(); } int main() { return f(); }", "int main() { int main; main = 1; return main; }")
	testPlaces(t, "", api.ErrMain,
		"", "int a;", "int main;", "int Main() { }", "@int main(int a) { }", "@long main() { }", "@char main() { }", "@void main() { }", "@int *main() { }",
		"@struct s *main() { } struct s { int a; };", "int f() { return x; } @void main() { }", "@void main() { return x; }",
		"@int main(int a) { } int f(void a) { }", "void f(int main) { int x; main = x; }", "struct main { int a; };", "void f() { int main; }",
	)
	testPlaces(t, "", api.ErrName,
		"int f() { return @x; }", "int main; @int main() { }", "int main() { } @int main(int a) { }", "int main(int a, @int a) { }",
		"int f() { } @int f() { } int main(int a) { }",
	)
	testPlaces(t, "", api.ErrType, "@void main;", "int main(@void a) { }", "@struct t main() { }", "int f(@void a) { } void main() { }", "int f() { @return; }")
}

// bodies are texts of a function's body each: what is ahead of it, and main behind it, are added.
func bodies(head string, l ...string) []string {
	var out []string
	for _, s := range l {
		out = append(out, tops+head+" { "+s+" }")
	}
	return out
}

// P7.1: what statements ask for.
func TestStmts(t *testing.T) {
	testPlaces(t, main, api.OK, bodies("void f()",
		"", ";", "{ ; { } }", "i; pi; v; none(); a; i = 1; exit(1); free(pi);", "if (c) ; if (l) ; else if (pi) ; else { }", "while (v) ; while (a) { }",
		"while (1) break; while (1) { { if (1) continue; else break; } }", "while (1) { while (1) ; break; } ", "return;", "if (1) return; return;",
		"if (0) ; while (0) ; if (i = 1) ; if (pi = 0) ;",
	)...)
	testPlaces(t, main, api.ErrType, bodies("void f()",
		"@s1;", "@*ps;", "@as[1];", "@(s1);", "if (@s1) ;", "if (@none()) ;", "while (@s1) ;", "while (@*ps) { }", "while (@exit(1)) ;",
		"if (1) ; else if (@none()) ;", "if ((@none())) ;", "@return 0;", "@return none();", "@return v;", "@break;", "@continue;", "if (1) @break;",
		"{ @continue; }", "while (1) ; @break;", "while (1) { } @continue;", "while (1) break; if (1) { @break; }", "while (1) { while (1) break; } @break;",
		"while (@none() + 1) ;", "if (1 + @one()) ;", "@s1.deep = 1;",
	)...)
	testPlaces(t, main, api.OK, bodies("char f()", "return 0;", "return l;", "return c; return i;", "return one(1);")...)
	testPlaces(t, main, api.ErrType, bodies("char f()", "@return;", "@return pi;", "@return none();", "@return s1;", "@return a;", "@return v;", "if (1) @return;")...)
	testPlaces(t, main, api.OK, bodies("int *f()", "return 0;", "return a;", "return pi;", "return &a[1];", "return f();", "return (0);")...)
	testPlaces(t, main, api.ErrType, bodies("int *f()", "@return;", "@return 1;", "@return pl;", "@return v;", "@return as;", "@return *pi;", "@return i;", "@return 0 + 0;")...)
	testPlaces(t, main, api.OK, bodies("void *f()", "return 0;", "return v;", "return *vv;")...)
	testPlaces(t, main, api.ErrType, bodies("void *f()", "@return;", "@return pi;", "@return vv;", "@return none();")...)
	testPlaces(t, main, api.OK, bodies("struct s *f()", "return &s1;", "return as;", "return s1.next;", "return 0;")...)
	testPlaces(t, main, api.ErrType, bodies("struct s *f()", "@return s1;", "@return *as;", "@return pps;")...)
}

// P7.1: locals.
func TestLocals(t *testing.T) {
	testPlaces(t, main, api.OK, bodies("void f(int x)",
		"int y;", "int y = x; char z = y;", "int *y = 0; int *z = a; int *u = &x;", "void *y = v; void **z = &y; void *u[3];",
		"struct s y; struct s *z = &y; struct s u[2]; z = u;", "int y[500]; int ****z[2];", "struct s s; s.c = 1;", "int i = l; long f = i;",
		"int y; { int y; } { int y; }", "{ int x; { int x; } }", "{ int y; } int y;", "if (1) int x; else int x;", "while (1) int x = 1;",
		"if (1) int y; int y;", "int main = 1; int free; free = main;", "int one = one(1); one = 2;", "int getchar = getchar();", "int y = 1; { int y = y; }",
	)...)
	testPlaces(t, main, api.ErrName, bodies("void f(int x)",
		"@int x;", "int y; @char y;", "int y; @int y = z;", "int y; @void y;", "int y; @struct t y[2] = z;", "{ int y; @int *y; }", "int y; { } @int y;",
		"int y; if (1) int y; @int y;", "int y = @y;", "int *y = &@y;", "int y[2]; int y2 = y[1] + @z;", "{ int y; } @y;", "if (1) int y; @y;",
		"if (1) int y; else @y;", "while (1) int y; @y;", "@y = 1; int y;", "int y = @z; int y;", "{ int y; @int y; }", "int one = 1; @one(1);",
		"int free; @free(pi);", "int f; @f(1);", "@x(1);", "int y = @putchar;", "while (@y) int y;", "{ int x; @int x = 1 = 2; }", "int y = @y(1);",
		"struct t y = @z;", "int y[2] = @z;", "void y = @z;",
	)...)
	testPlaces(t, main, api.ErrType, bodies("void f(int x)",
		"@void y;", "@void y[2];", "@void y = 1;", "@struct t y;", "@struct t *y;", "@struct t ****y[2];", "@struct t *y = 0;", "@int y[2] = 1;",
		"@int y[2] = 0;", "@int *y[2] = 0;", "@int y[1] = a;", "@struct s y = 0;", "@struct s y = s1;", "@struct s y[2] = as;", "@int y = pi;", "@int *y = 1;",
		"@int *y = pl;", "@int *y = v;", "@void *y = pi;", "@int y = none();", "@int y = s1;", "@struct s *y = s1;", "@struct s *y = pps;", "@char y = v;",
		"int y = @1 = 2;", "int y = @one();", "int ****y; @&y;", "int ****y[2]; @y;", "int y[2]; @y = 0;", "int y[2]; @&y;", "struct s y; @y;",
		"struct s y; @y = s1;", "int i[2]; @i = 1;", "int *i; @i = 1;", "if (1) @void y;", "while (1) @int y[2] = 1;",
	)...)
	testPlaces(t, main, api.ErrName, bodies("void f(int ****x)", "{ int x; } @int x;")...)
	testPlaces(t, main, api.ErrType, bodies("void f(int ****x)", "@&x;", "{ int x; &x; } @&x;")...)
}

// P7.1: of several that are wrong in bodies the first is told: what stands in a statement, then itself.
func TestFirstOfStmts(t *testing.T) {
	testPlaces(t, main, api.ErrName, bodies("void f()",
		"return @x;", "if (@x) break;", "if (1) @x; else break;", "while (@x) return 1;", "while (1) { } @x; break;", "@x; y;", "@x; s1;", "if (s1) @x;",
		"while (none()) { @x; }", "if (none()) ; else @x;", "if (s1) { int y; @int y; }", "if (1) { @x; } else s1;",
	)...)
	testPlaces(t, main, api.ErrType, bodies("void f()",
		"@break; x;", "if (1) @break; else x;", "@s1; x;", "if (@s1) ; x;", "if (s1) @break;", "if (none()) while (@s1) ; else ;",
		"while (s1) if (@none()) ; x;", "while (none()) { break; @s1; }", "{ @return 1; } x;", "@return 1; x;", "@void y; x;", "@void y; y();",
		"@int y[2] = 1; int y;",
	)...)
	testPlaces(t, "", api.ErrType, "void f() { @break; } void g() { x; }", "int f() { } void g() { @break; } int main() { return x; }")
	testPlaces(t, "", api.ErrName, "void f() { @x; } void g() { break; }", "int f() { } void g() { @x; } void h() { break; }")
}

// testProgram checks a text and holds what its functions' bodies become against what is asked.
func testProgram(t *testing.T, text string, want ...string) {
	t.Helper()
	p, at, e := checked(t, text)
	var got []string
	for _, f := range p.Funcs {
		s := f.Name
		for _, v := range f.Params {
			s += " " + shownType(v.Type) + " " + v.Name
		}
		got = append(got, s+" "+shownStmt(f.Body))
	}
	if e != api.OK || at != 0 || !slices.Equal(got, want) {
		t.Errorf("P7.1: Check(%q): %s: %q, want %q", text, wrong(at, e), got, want)
	}
}

// P7.1: the chapter's example.
func TestExample(t *testing.T) {
	testProgram(t, "char c; int main() { c = 300; return c + 1; }",
		"main (block (expr (= c:char (cast 300:int):char):char) (return (+ (cast c:char):int 1:int):int))")
}

// P7.1: whole programs: new names, and what statements ask for.
func TestPrograms(t *testing.T) {
	testProgram(t, "int x; int f(int a, char *b, long x) { int c = a; { int a = a; long b; b = a; } char d = x; return d; } int main() { x = 1; int x = 2; return x; }",
		"f int $0 char* $1 long $2 (block (local int $3 $0:int) (block (local int $4 $0:int) (local long $5) (expr (= $5:long (cast $4:int):long):long)) (local char $6 (cast $2:long):char) (return (cast $6:char):int))",
		"main (block (expr (= x:int 1:int):int) (local int $0 2:int) (return $0:int))")
	testProgram(t, "void f(int *p) { if (p) int p; else long p = 1; while (p) char p[2]; int i[3]; i[0] = *p; return; } int main() { return g(1, 0); } long g(char c, int *p) { if (c) return c; }",
		"f int* $0 (block (if $0:int* (local int $1) (local long $2 (cast 1:int):long)) (while $0:int* (local char $3)) (local int $4) (expr (= (index $4[]:int* (cast 0:int):long):int (* $0:int*):int):int) (return))",
		"main (block (return (cast (g (cast 1:int):char 0:int*):long):int))",
		"g char $0 int* $1 (block (if $0:char (return (cast $0:char):long)))")
	testProgram(t, "int main() { int main = 1; { int main = main; while (main) { int free; if (main) break; continue; } } ; return main; }",
		"main (block (local int $0 1:int) (block (local int $1 $0:int) (while $1:int (block (local int $2) (if $1:int (break)) (continue)))) (expr) (return $0:int))")
	testProgram(t, "struct n { struct n *n; } ; struct n n; struct n *f() { struct n n[2]; return n[1].n = &n[0]; } int main() { while (n.n) ; if (0) ; return !n.n->n; }",
		"f (block (local n $0) (return (= (.n (index $0[]:n* (cast 1:int):long):n):n* (& (index $0[]:n* (cast 0:int):long):n):n*):n*))",
		"main (block (while (.n n:n):n* (expr)) (if 0:int (expr)) (return (! (.n (* (.n n:n):n*):n):n*):int))")
	testProgram(t, "int *f(int *p) { int *q = 0; return 0; } int main() { long l = 0; char c = 'a'; f(0); free(f(0)); return l << c; }",
		"f int* $0 (block (local int* $1 0:int*) (return 0:int*))",
		"main (block (local long $0 (cast 0:int):long) (local char $1 (cast 97:int):char) (expr (f 0:int*):int*) (expr (free (f 0:int*):int*):void) (return (cast (<< $0:long (cast $1:char):long):long):int))")
}

// P7.1: a cast that is put around a number stands where that does.
func TestPlacesOfCasts(t *testing.T) {
	text := "char c; long l; int main() { l = (c) + 1; return l; }"
	p, _, _ := checked(t, text)
	k := p.Funcs[0].Body.Kids
	sum := k[0].Exprs[0].Kids[1]
	want := strings.Index(text, "(c)") + 1
	left := sum.Kids[0].Kids[0]
	if sum.Kind != api.ECast || sum.At != want || left.Kind != api.ECast || left.At != want || sum.Kids[0].At != want {
		t.Errorf("P7.1: %v", sum)
	}
	if r := k[1].Exprs[0]; r.Kind != api.ECast || r.At != strings.LastIndex(text, "l") || r.Op != "" || r.Name != "" || r.Num != 0 {
		t.Errorf("P7.1: %v", r)
	}
}

// P7.1, P6: the longest and the deepest programs that there are.
func TestGreatest(t *testing.T) {
	times := strings.Repeat
	for text, want := range map[string]api.Errno{
		"int main() { return " + times("1 + ", 1200) + "1; }":                                                        api.OK,
		"char c; int main() { return " + times("c + ", 1200) + "x; }":                                                api.ErrName,
		"struct s { struct s *n; int i; }; struct s s; int main() { return s" + times(".n[0]", 490) + ".i; }":        api.OK,
		"struct s { struct s *n; int i; }; struct s s; int main() { return s.n" + times("->n", 1200) + "->n == 0; }": api.OK,
		"int main() { " + times("{", 38) + "int x;" + times("}", 38) + " }":                                          api.OK,
		"int main() { " + times("while (1) ", 38) + "break; }":                                                       api.OK,
		"int main() { return " + times("~", 37) + "1; }":                                                             api.OK,
		"int main() { " + times("int x;", 800) + " }":                                                                api.ErrName,
		"int main() { int x; " + times("{ int x; }", 480) + " return x; }":                                           api.OK,
		"int main() { " + times("if (1) int x; else int x;", 140) + " }":                                             api.OK,
	} {
		p, at, e := parse.Parse(text)
		if e != api.OK {
			t.Errorf("Parse(%.90q): %d, %d", text, at, e)
			continue
		}
		if _, at, e := check.Check(p); e != want {
			t.Errorf("P7.1: Check(%.90q): %s, want %d", text, wrong(at, e), want)
		}
	}
}

// P7.1: each param and local has a number of its own, also where there are many.
func TestManyLocals(t *testing.T) {
	p, _, e := checked(t, "void f(int a, int b) { "+strings.Repeat("{ int a = b; } ", 200)+"} int main() { int a; return a; }")
	if e != api.OK {
		t.Fatalf("P7.1: Check: %d", e)
	}
	for i, s := range p.Funcs[0].Body.Kids {
		v, x := s.Kids[0].Var, s.Kids[0].Exprs[0]
		if v.Name != "$"+strconv.Itoa(i+2) || x.Name != "$1" {
			t.Fatalf("P7.1: local %d: %v", i, s)
		}
	}
	if v := p.Funcs[1].Body.Kids[0].Var; v.Name != "$0" {
		t.Errorf("P7.1: main's local: %v", v)
	}
}
