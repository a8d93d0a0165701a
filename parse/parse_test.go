package parse_test

import (
	"slices"
	"strconv"
	"strings"
	"testing"

	"hauberk/api"
	"hauberk/parse"
)

// before is what a function has ahead of its first statement, in these tests.
const before = "int f(){"

func at(n int) string { return "@" + strconv.Itoa(n) }

// shownType is a type as it is written.
func shownType(t api.Type) string {
	names := []string{"void", "char", "int", "long", "struct"}
	s := "?"
	if t.Base >= 0 && t.Base < len(names) {
		s = names[t.Base]
	}
	if t.Struct != "" {
		s += " " + t.Struct
	}
	return s + strings.Repeat("*", t.Stars)
}

func shownVar(v api.Var) string {
	s := shownType(v.Type) + " " + v.Name
	if v.Len != 0 {
		s += "[" + strconv.Itoa(v.Len) + "]"
	}
	return s + at(v.At)
}

// shownExpr is an expression with its operator ahead of its kids, and with all places.
func shownExpr(x api.Expr) string {
	heads := map[int]string{api.EUnary: x.Op, api.EBinary: x.Op, api.EAssign: "=", api.ECall: "call " + x.Name, api.EIndex: "index", api.EField: "field " + x.Name, api.ECast: "cast " + shownType(x.Type), api.ESize: "size " + shownType(x.Type), api.EMalloc: "malloc " + shownType(x.Type)}
	switch x.Kind {
	case api.ENum:
		return strconv.FormatUint(x.Num, 10) + at(x.At)
	case api.EName:
		return x.Name + at(x.At)
	}
	s := "(" + heads[x.Kind]
	for _, k := range x.Kids {
		s += " " + shownExpr(k)
	}
	return s + ")" + at(x.At)
}

// shownStmt is a statement, with all that stands in it.
func shownStmt(s api.Stmt) string {
	heads := map[int]string{api.SBlock: "block", api.SIf: "if", api.SWhile: "while", api.SReturn: "return", api.SBreak: "break", api.SContinue: "continue", api.SExpr: "expr", api.SLocal: "local"}
	text := "(" + heads[s.Kind]
	if s.Kind == api.SLocal {
		text += " " + shownVar(s.Var)
	}
	for _, x := range s.Exprs {
		text += " " + shownExpr(x)
	}
	for _, k := range s.Kids {
		text += " " + shownStmt(k)
	}
	return text + ")" + at(s.At)
}

// shown is a whole answer.
func shown(p api.Program, place int, e api.Errno) string {
	if e != api.OK {
		return "error " + strconv.Itoa(int(e)) + at(place)
	}
	l := []string{}
	for _, s := range p.Structs {
		fields := ""
		for _, f := range s.Fields {
			fields += " " + shownType(f.Type) + " " + f.Name + at(f.At)
		}
		l = append(l, "(struct "+s.Name+fields+")"+at(s.At))
	}
	for _, v := range p.Vars {
		l = append(l, "(var "+shownVar(v)+")")
	}
	for _, f := range p.Funcs {
		params := []string{}
		for _, v := range f.Params {
			params = append(params, shownVar(v))
		}
		l = append(l, "(func "+shownType(f.Type)+" "+f.Name+"("+strings.Join(params, ", ")+") "+shownStmt(f.Body)+")"+at(f.At))
	}
	if place != 0 {
		l = append(l, "place"+at(place))
	}
	return strings.Join(l, " ")
}

func parsed(text string) string { return shown(parse.Parse(text)) }

func wrong(e api.Errno, place int) string { return shown(api.Program{}, place, e) }

// P6.1: tops, written out.
func TestTops(t *testing.T) {
	for text, want := range map[string]string{
		"":                                  "",
		" /* nothing */ \n":                 "",
		"int a;":                            "(var int a@0)",
		" void v; char c ;":                 "(var void v@1) (var char c@9)",
		"long *p; int a[3]; char **q[500];": "(var long* p@0) (var int a[3]@9) (var char** q[500]@19)",
		"int a[1];int b[0x1f4];int c['~'];": "(var int a[1]@0) (var int b[500]@9) (var int c[126]@22)",
		"int a[007];":                       "(var int a[7]@0)",
		"struct s x;":                       "(var struct s x@0)",
		"struct s ****x[2];":                "(var struct s**** x[2]@0)",
		"void****v;":                        "(var void**** v@0)",
		"struct s { };":                     "(struct s)@7",
		"struct s { int a; };":              "(struct s int a@11)@7",
		"struct s{struct s*n;void v;long*l;};struct t{};":           "(struct s struct s* n@9 void v@20 long* l@27)@7 (struct t)@43",
		"struct s{struct t{};};":                                    wrong(api.ErrSyntax, 17),
		"struct s f(){}":                                            "(func struct s f() (block)@12)@0",
		"int f(){}":                                                 "(func int f() (block)@7)@0",
		"void*f ( int a , struct s**b ) { }":                        "(func void* f(int a@9, struct s** b@17) (block)@31)@0",
		"int f(int a,int b,int c,int d,int e,int g){}":              "(func int f(int a@6, int b@12, int c@18, int d@24, int e@30, int g@36) (block)@42)@0",
		"int f(void v){}":                                           "(func int f(void v@6) (block)@13)@0",
		"int f(){} int a; struct s{}; int f(){} int a; struct s{};": "(struct s)@24 (struct s)@53 (var int a@10) (var int a@39) (func int f() (block)@7)@0 (func int f() (block)@36)@29",
		"long f(long *p) { return p[1] + 2; }":                      "(func long f(long* p@7) (block (return (+ (index p@25 1@27)@25 2@32)@25)@18)@16)@0",
	} {
		if got := parsed(text); got != want {
			t.Errorf("P6.1: Parse(%q): %s, want %s", text, got, want)
		}
	}
}

// P6.1: expressions, written out: how strongly operators bind, what each is, and where.
func TestExprs(t *testing.T) {
	for text, want := range map[string]string{
		"1":                       "1@0",
		"0x1f":                    "31@0",
		"'A'":                     "65@0",
		"9223372036854775807":     "9223372036854775807@0",
		"a":                       "a@0",
		"(a)":                     "a@1",
		"((a))":                   "a@2",
		"a+b+c":                   "(+ (+ a@0 b@2)@0 c@4)@0",
		"a+(b+c)":                 "(+ a@0 (+ b@3 c@5)@3)@0",
		"(a+b)+c":                 "(+ (+ a@1 b@3)@1 c@6)@1",
		"a-b+c-d":                 "(- (+ (- a@0 b@2)@0 c@4)@0 d@6)@0",
		"a*b/c%d":                 "(% (/ (* a@0 b@2)@0 c@4)@0 d@6)@0",
		"a+b*c":                   "(+ a@0 (* b@2 c@4)@2)@0",
		"a*b+c":                   "(+ (* a@0 b@2)@0 c@4)@0",
		"a<<b+c":                  "(<< a@0 (+ b@3 c@5)@3)@0",
		"a<<b>>c":                 "(>> (<< a@0 b@3)@0 c@6)@0",
		"a<b<<c":                  "(< a@0 (<< b@2 c@5)@2)@0",
		"a<b>c<=d>=e":             "(>= (<= (> (< a@0 b@2)@0 c@4)@0 d@7)@0 e@10)@0",
		"a==b<c":                  "(== a@0 (< b@3 c@5)@3)@0",
		"a==b!=c":                 "(!= (== a@0 b@3)@0 c@6)@0",
		"a&b==c":                  "(& a@0 (== b@2 c@5)@2)@0",
		"a^b&c":                   "(^ a@0 (& b@2 c@4)@2)@0",
		"a|b^c":                   "(| a@0 (^ b@2 c@4)@2)@0",
		"a&&b|c":                  "(&& a@0 (| b@3 c@5)@3)@0",
		"a||b&&c":                 "(|| a@0 (&& b@3 c@6)@3)@0",
		"a&&b||c":                 "(|| (&& a@0 b@3)@0 c@6)@0",
		"a||b||c":                 "(|| (|| a@0 b@3)@0 c@6)@0",
		"a=b":                     "(= a@0 b@2)@0",
		"a=b=c":                   "(= a@0 (= b@2 c@4)@2)@0",
		"(a=b)=c":                 "(= (= a@1 b@3)@1 c@6)@1",
		"1+a=2":                   "(= (+ 1@0 a@2)@0 2@4)@0",
		"a=b||c":                  "(= a@0 (|| b@2 c@5)@2)@0",
		"-a":                      "(- a@1)@0",
		"-~!*&a":                  "(- (~ (! (* (& a@5)@4)@3)@2)@1)@0",
		"- -a":                    "(- (- a@3)@2)@0",
		"a--b":                    "(- a@0 (- b@3)@2)@0",
		"a& &b":                   "(& a@0 (& b@4)@3)@0",
		"a**b":                    "(* a@0 (* b@3)@2)@0",
		"-a*b":                    "(* (- a@1)@0 b@3)@0",
		"-a=b":                    "(= (- a@1)@0 b@3)@0",
		"*****p":                  "(* (* (* (* (* p@5)@4)@3)@2)@1)@0",
		"*p[1]":                   "(* (index p@1 1@3)@1)@0",
		"(*p)[1]":                 "(index (* p@2)@1 1@5)@1",
		"a[1][b]":                 "(index (index a@0 1@2)@0 b@5)@0",
		"a[b=1]":                  "(index a@0 (= b@2 1@4)@2)@0",
		"a.b.c":                   "(field c (field b a@0)@0)@0",
		"(a).b":                   "(field b a@1)@1",
		"p->f":                    "(field f (* p@0)@0)@0",
		"(p)->f":                  "(field f (* p@1)@1)@1",
		"(*p).f":                  "(field f (* p@2)@1)@1",
		"*p->f":                   "(* (field f (* p@1)@1)@1)@0",
		"p->f->g.h[1]":            "(index (field h (field g (* (field f (* p@0)@0)@0)@0)@0)@0 1@10)@0",
		"&a.b":                    "(& (field b a@1)@1)@0",
		"1[2]":                    "(index 1@0 2@2)@0",
		"1 .f":                    "(field f 1@0)@0",
		"f()":                     "(call f)@0",
		"f (1)":                   "(call f 1@3)@0",
		"f(a,b=1,(c))":            "(call f a@2 (= b@4 1@6)@4 c@9)@0",
		"f(1,2,3,4,5,6)":          "(call f 1@2 2@4 3@6 4@8 5@10 6@12)@0",
		"f(g(),g(g(1)))":          "(call f (call g)@2 (call g (call g 1@10)@8)@6)@0",
		"f()->a[0]":               "(index (field a (* (call f)@0)@0)@0 0@7)@0",
		"sizeof(int)":             "(size int)@0",
		"sizeof ( struct s*)":     "(size struct s*)@0",
		"sizeof(void)":            "(size void)@0",
		"sizeof(long)*a":          "(* (size long)@0 a@13)@0",
		"-sizeof(int)":            "(- (size int)@1)@0",
		"(int)a":                  "(cast int a@5)@0",
		"(int)a+b":                "(+ (cast int a@5)@0 b@7)@0",
		"(int)(a+b)":              "(cast int (+ a@6 b@8)@6)@0",
		"(int)a[1]":               "(cast int (index a@5 1@7)@5)@0",
		"(int)-a":                 "(cast int (- a@6)@5)@0",
		"(int)*a":                 "(cast int (* a@6)@5)@0",
		"(int*)a":                 "(cast int* a@6)@0",
		"(int*)*a":                "(cast int* (* a@7)@6)@0",
		"(char)(long)1":           "(cast char (cast long 1@12)@6)@0",
		"-(int)a":                 "(- (cast int a@6)@1)@0",
		"a*(int)b":                "(* a@0 (cast int b@7)@2)@0",
		"((int)a)[1]":             "(index (cast int a@6)@1 1@9)@1",
		"(int)sizeof(int)":        "(cast int (size int)@5)@0",
		"(int*)malloc(4)":         "(malloc int* 4@13)@0",
		"(struct s**)malloc(a=b)": "(malloc struct s** (= a@19 b@21)@19)@0",
		"(int*)malloc(4)+1":       "(+ (malloc int* 4@13)@0 1@16)@0",
		"*(int*)malloc(4)":        "(* (malloc int* 4@14)@1)@0",
		"((int*)malloc(4))[0]":    "(index (malloc int* 4@14)@1 0@18)@1",
		"(long)(int*)malloc(4)":   "(cast long (malloc int* 4@19)@6)@0",
		"a + /* + */ b // c\n":    "(+ a@0 b@12)@0",
	} {
		n := len(before)
		got := parsed(before + strings.Repeat(" ", 100-n) + text + ";}")
		for i := 200; i >= 100; i-- {
			got = strings.ReplaceAll(got, at(i), at(i-100))
		}
		if full := "(func int f() (block (expr " + want + ")@0)@7)@0"; got != full {
			t.Errorf("P6.1: Parse of %q: %s, want %s", text, got, full)
		}
	}
}

// P6.1: statements, written out.
func TestStmts(t *testing.T) {
	for text, want := range map[string]string{
		"":                          "",
		";":                         "(expr)@8",
		";;":                        "(expr)@8 (expr)@9",
		"a;":                        "(expr a@8)@8",
		"(a);":                      "(expr a@9)@8",
		"(a)=b;":                    "(expr (= a@9 b@12)@9)@8",
		"{}":                        "(block)@8",
		"{{};}":                     "(block (block)@9 (expr)@11)@8",
		"if(a);":                    "(if a@11 (expr)@13)@8",
		"if(a);else;":               "(if a@11 (expr)@13 (expr)@18)@8",
		"if(a)if(b);else;":          "(if a@11 (if b@16 (expr)@18 (expr)@23)@13)@8",
		"if(a)if(b);else;else{}":    "(if a@11 (if b@16 (expr)@18 (expr)@23)@13 (block)@28)@8",
		"if(a){if(b);}else;":        "(if a@11 (block (if b@17 (expr)@19)@14)@13 (expr)@25)@8",
		"if(a)while(b)if(c);else;":  "(if a@11 (while b@19 (if c@24 (expr)@26 (expr)@31)@21)@13)@8",
		"if(a);else if(b);else;":    "(if a@11 (expr)@13 (if b@22 (expr)@24 (expr)@29)@19)@8",
		"while(a)b;":                "(while a@14 (expr b@16)@16)@8",
		"while(a=b){}":              "(while (= a@14 b@16)@14 (block)@18)@8",
		"return;":                   "(return)@8",
		"return a;":                 "(return a@15)@8",
		"return(a);":                "(return a@15)@8",
		"return-1;":                 "(return (- 1@15)@14)@8",
		"break;continue;":           "(break)@8 (continue)@14",
		"while(1){break;}":          "(while 1@14 (block (break)@17)@16)@8",
		"int a;":                    "(local int a@8)@8",
		"int*a=b;":                  "(local int* a@8 b@14)@8",
		"int a=b=1;":                "(local int a@8 (= b@14 1@16)@14)@8",
		"char a[500];":              "(local char a[500]@8)@8",
		"char a[2]=1;":              "(local char a[2]@8 1@18)@8",
		"struct s a;":               "(local struct s a@8)@8",
		"struct s*a=(struct s*)0;":  "(local struct s* a@8 (cast struct s* 0@30)@19)@8",
		"void v;":                   "(local void v@8)@8",
		"if(a)int b;":               "(if a@11 (local int b@13)@13)@8",
		"if(a)return;else break;":   "(if a@11 (return)@13 (break)@25)@8",
		"a;int a;{int a;}return a;": "(expr a@8)@8 (local int a@10)@10 (block (local int a@17)@17)@16 (return a@31)@24",
	} {
		full := "(func int f() (block " + want + ")@7)@0"
		if want == "" {
			full = "(func int f() (block)@7)@0"
		}
		if got := parsed(before + text + "}"); got != full {
			t.Errorf("P6.1: Parse of %q: %s, want %s", text, got, full)
		}
	}
}

// P6.1, P7 (R3): the error of chapter 5, and its place, whatever is wrong else.
func TestLexErrors(t *testing.T) {
	for text, want := range map[string]string{
		"@":                                    wrong(api.ErrLex, 0),
		"int a; 12a":                           wrong(api.ErrLex, 7),
		"} } @":                                wrong(api.ErrLex, 4),
		"int a[0]; /*":                         wrong(api.ErrLex, 10),
		"int *****p; '":                        wrong(api.ErrLex, 12),
		"int a[9223372036854775808];":          wrong(api.ErrLex, 6),
		strings.Repeat(" ", 8193):              wrong(api.ErrFull, 8192),
		strings.Repeat("}", 2501):              wrong(api.ErrFull, 2500),
		before + strings.Repeat("~", 60) + "@": wrong(api.ErrLex, 68),
	} {
		if got := parsed(text); got != want {
			t.Errorf("P6.1: Parse(%.40q): %s, want %s", text, got, want)
		}
	}
}

// P6.1: what goes on no beginning of a program's text, at the first such token.
func TestSyntax(t *testing.T) {
	for text, place := range map[string]int{
		"int": 3, "int a": 5, "int a ": 6, "a;": 0, "1": 0, ";": 0, "}": 0, "int ;": 4, "int int;": 4, "int 1;": 4, "int a,b;": 5, "int a = 1;": 6, "int a=1;": 5, "int (a);": 4, "*int a;": 0,
		"int a[": 6, "int a[]": 6, "int a[x];": 6, "int a[-1];": 6, "int a[1+1];": 7, "int a[1": 7, "int a[1)": 7, "int a[1]": 8, "int a[1][2];": 8, "int a[1](){}": 8, "int a[1]=2;": 8, "int a[(1)];": 6,
		"struct": 6, "struct ;": 7, "struct {": 7, "struct int a;": 7, "struct 1 {": 7, "struct s": 8, "struct s;": 8, "struct s {": 10, "struct s { int": 14, "struct s { int a": 16, "struct s { int a }": 17, "struct s { int a; }": 19, "struct s { int a; } x;": 20, "struct s { int a[2]; };": 16, "struct s { int a, b; };": 16, "struct s { a; };": 11, "struct s { ; };": 11, "struct s { int f(){} };": 16, "struct s * {": 11, "struct s { } ; ;": 15, "struct s a {": 11, "struct s { struct t { int a; }; };": 20,
		"int f(": 6, "int f(,": 6, "int f(int": 9, "int f(int)": 9, "int f(int a": 11, "int f(int a,": 12, "int f(int a,)": 12, "int f(int a int b": 12, "int f(int a[1]": 11, "int f(void){}": 10, "int f(a){}": 6, "int f(){};": 9, "int f();": 7, "int f()": 7, "int f(){": 8, "int f(){}}": 9, "int f() int a;": 8, "int f(int a;": 11, "int f(...)": 6, "int f(){}{": 9,
		"int f(){if 1;}": 11, "int f(){if": 10, "int f(){if(": 11, "int f(){if()": 11, "int f(){if(1": 12, "int f(){if(1;": 12, "int f(){if(1)": 13, "int f(){if(1)}": 13, "int f(){if(1)else;}": 13, "int f(){if(1);else}": 18, "int f(){if(1);else;else;}": 19, "int f(){if(1);;else;}": 15, "int f(){else;}": 8, "int f(){if(int a)": 11, "int f(){if(1,2)": 12,
		"int f(){while;": 13, "int f(){while()": 14, "int f(){while(1)}": 16, "int f(){while(1);else;}": 17, "int f(){return": 14, "int f(){return}": 14, "int f(){return 1}": 16, "int f(){return int;}": 15, "int f(){return 1,2;}": 16, "int f(){break": 13, "int f(){break 1;}": 14, "int f(){continue}": 16, "int f(){break()": 13,
		"int f(){int": 11, "int f(){int;}": 11, "int f(){int a": 13, "int f(){int a,b;}": 13, "int f(){int a=;}": 14, "int f(){int a[x];}": 14, "int f(){int a[1]": 16, "int f(){int a[1][1]": 16, "int f(){int a[1]={1}": 17, "int f(){int a(){}": 13, "int f(){int g();}": 13, "int f(){struct s {": 17, "int f(){struct {": 15, "int f(){struct s;": 16, "int f(){int*;}": 12, "int f(){int a=1=2;": 18, "int f(){int a b": 14,
		"int f(){a": 9, "int f(){a}": 9, "int f(){a b;}": 10, "int f(){1 2;}": 10, "int f(){a+;}": 10, "int f(){a++b;}": 10, "int f(){++a;}": 8, "int f(){+a;}": 8, "int f(){a=;}": 10, "int f(){=a;}": 8, "int f(){a+=1;}": 10, "int f(){a==;}": 11, "int f(){a=>b;}": 10, "int f(){a,b;}": 9, "int f(){a!b;}": 9, "int f(){a~b;}": 9, "int f(){a<>b;}": 10, "int f(){a<=>b;}": 11, "int f(){a&&&&b;}": 11, "int f(){a|||b;}": 11,
		"int f(){(a;}": 10, "int f(){(;}": 9, "int f(){();}": 9, "int f(){a);}": 9, "int f(){a];}": 9, "int f(){(a,b);}": 10, "int f(){(a}": 10, "int f(){a[;}": 10, "int f(){a[];}": 10, "int f(){a[1;}": 11, "int f(){a[1);}": 11, "int f(){a[1,2];}": 11, "int f(){[1];}": 8,
		"int f(){a.1;}": 10, "int f(){a.;}": 10, "int f(){a.int;}": 10, "int f(){a.(b);}": 10, "int f(){a->;}": 11, "int f(){a->1;}": 11, "int f(){a->*b;}": 11, "int f(){.a;}": 8, "int f(){->a;}": 8, "int f(){a.b();}": 11, "int f(){a->b();}": 12, "int f(){1.5;}": 10,
		"int f(){g(;}": 10, "int f(){g(1;}": 11, "int f(){g(1,);}": 12, "int f(){g(,1);}": 10, "int f(){g(1 2);}": 12, "int f(){g()();}": 11, "int f(){(g)();}": 11, "int f(){1();}": 9, "int f(){a[0]();}": 12, "int f(){g(int);}": 10, "int f(){g(1}": 11,
		"int f(){malloc(1);}": 8, "int f(){malloc;}": 8, "int f(){-malloc(1);}": 9, "int f(){a=malloc(1);}": 10, "int f(){(malloc(1));}": 9, "int f(){(int)malloc 1;}": 20, "int f(){(int)malloc;}": 19, "int f(){(int)malloc();}": 20, "int f(){(int)malloc(1,2);}": 21, "int f(){(int)malloc(1;}": 21, "int f(){(int)malloc(1)[0];}": 22, "int f(){(int)malloc(1).a;}": 22, "int f(){(int)malloc(1)->a;}": 22, "int f(){(int)malloc(int);}": 20, "int f(){(int)(malloc(1));}": 14, "int f(){(int)-malloc(1);}": 14,
		"int f(){sizeof 1;}": 15, "int f(){sizeof;}": 14, "int f(){sizeof a;}": 15, "int f(){sizeof(1);}": 15, "int f(){sizeof(a);}": 15, "int f(){sizeof();}": 15, "int f(){sizeof(int;}": 18, "int f(){sizeof(int a);}": 19, "int f(){sizeof(int)[0];}": 19, "int f(){sizeof(int).a;}": 19, "int f(){sizeof(int)->a;}": 19, "int f(){sizeof(int)();}": 19, "int f(){sizeof(int[2]);}": 18, "int f(){sizeof int;}": 15, "int f(){sizeof(struct);}": 21, "int f(){sizeof(int)1;}": 19,
		"int f(){(int);}": 13, "int f(){(int);a}": 13, "int f(){(int a)1;}": 13, "int f(){(int": 12, "int f(){(int)": 13, "int f(){(int)+a;}": 13, "int f(){(struct)a;}": 15, "int f(){(struct 1)a;}": 16, "int f(){(int)int;}": 13, "int f(){(int*a)b;}": 13, "int f(){(int[1])b;}": 12, "int f(){(*int)b;}": 10, "int f(){(int)*;}": 14, "int f(){(int)if": 13,
		"int f(){-;}": 9, "int f(){-}": 9, "int f(){a-}": 10, "int f(){!int;}": 9, "int f(){*}": 9, "int f(){&(": 10, "int f(){a if(1);}": 10, "int f(){{;}": 11, "int f(){;{": 10, "int f(){;;a": 11,
	} {
		if got, want := parsed(text), wrong(api.ErrSyntax, place); got != want {
			t.Errorf("P6.1: Parse(%q): %s, want %s", text, got, want)
		}
	}
}

// P6.1: lengths and stars that are out of their range, and what comes first.
func TestRange(t *testing.T) {
	for text, want := range map[string]string{
		"int a[0];":                     wrong(api.ErrRange, 6),
		"int a[ 0x0 ];":                 wrong(api.ErrRange, 7),
		"int a[501];":                   wrong(api.ErrRange, 6),
		"int a[0x1f5]":                  wrong(api.ErrRange, 6),
		"int a[9223372036854775807];":   wrong(api.ErrRange, 6),
		"int a[0x7fffffffffffffff];":    wrong(api.ErrRange, 6),
		"int a[4294967297];":            wrong(api.ErrRange, 6),
		"int a[0":                       wrong(api.ErrRange, 6),
		"int a[0 0":                     wrong(api.ErrRange, 6),
		"int a[00000501 int":            wrong(api.ErrRange, 6),
		"int f(){int a[0]=;}":           wrong(api.ErrRange, 14),
		"int f(){int a[501];}":          wrong(api.ErrRange, 14),
		"int f(){int a[1];int b[501];}": wrong(api.ErrRange, 23),
		"int a[1]; int b[x]; int c[0];": wrong(api.ErrSyntax, 16),
		"int *****p;":                   wrong(api.ErrRange, 8),
		"int * * * * *":                 wrong(api.ErrRange, 12),
		"int ******p;":                  wrong(api.ErrRange, 8),
		"void*****":                     wrong(api.ErrRange, 8),
		"int ****;":                     wrong(api.ErrSyntax, 8),
		"int ****":                      wrong(api.ErrSyntax, 8),
		"struct s *****p;":              wrong(api.ErrRange, 13),
		"struct *****p;":                wrong(api.ErrSyntax, 7),
		"struct s { int *****p; };":     wrong(api.ErrRange, 19),
		"int f(char *****p){}":          wrong(api.ErrRange, 15),
		"int f(){int *****p;}":          wrong(api.ErrRange, 16),
		"int f(){(int*****)p;}":         wrong(api.ErrRange, 16),
		"int f(){sizeof(int*****);}":    wrong(api.ErrRange, 22),
		"int f(){(int*****)malloc(1);}": wrong(api.ErrRange, 16),
		"int f(){(int****)*a;}":         "(func int f() (block (expr (cast int**** (* a@18)@17)@8)@8)@7)@0",
		"int *****f(){}":                wrong(api.ErrRange, 8),
	} {
		if got := parsed(text); got != want {
			t.Errorf("P6.1: Parse(%q): %s, want %s", text, got, want)
		}
	}
}

// P6.1: so many params and arguments as may be, and one more, whatever it is.
func TestFull(t *testing.T) {
	for text, want := range map[string]string{
		"int f(int a,int b,int c,int d,int e,int g,int h){}": wrong(api.ErrFull, 42),
		"int f(int a,int b,int c,int d,int e,int g, )":       wrong(api.ErrFull, 43),
		"int f(int a,int b,int c,int d,int e,int g,":         wrong(api.ErrFull, 42),
		"int f(int a,int b,int c,int d,int e,int g int h":    wrong(api.ErrSyntax, 42),
		"int f(int a,int b,int c,int d,int e,int g":          wrong(api.ErrSyntax, 41),
		"int f(int a,int b,int c,int d,int e,x,int":          wrong(api.ErrSyntax, 36),
		"int f(){g(1,2,3,4,5,6,7);}":                         wrong(api.ErrFull, 22),
		"int f(){g(1,2,3,4,5,6, );}":                         wrong(api.ErrFull, 23),
		"int f(){g(1,2,3,4,5,6,,":                            wrong(api.ErrFull, 22),
		"int f(){g(1,2,3,4,5,6,":                             wrong(api.ErrFull, 22),
		"int f(){g(1,2,3,4,5,6,int":                          wrong(api.ErrFull, 22),
		"int f(){g(1,2,3,4,5,6 7":                            wrong(api.ErrSyntax, 22),
		"int f(){g(1,2,3,4,5,,6,":                            wrong(api.ErrSyntax, 20),
		"int f(){g(1,2,h(1,2,3,4,5,6,7),3);}":                wrong(api.ErrFull, 28),
		"int f(){g(1,2,3,4,5,h(1,2,3,4,5,6),7);}":            wrong(api.ErrFull, 35),
	} {
		if got := parsed(text); got != want {
			t.Errorf("P6.1: Parse(%q): %s, want %s", text, got, want)
		}
	}
}

// times is a text so many times.
func times(n int, s string) string { return strings.Repeat(s, n) }

// closed is a text with all brackets closed that are open in it.
func closed(text string) string {
	ends := ""
	for _, c := range text {
		switch c {
		case '(':
			ends = ")" + ends
		case '[':
			ends = "]" + ends
		case '{':
			ends = "}" + ends
		case ')', ']', '}':
			ends = ends[1:]
		}
	}
	inside := strings.TrimRight(ends, "}")
	text += inside
	if !strings.HasSuffix(text, ";") && !strings.HasSuffix(text, "{") && !strings.HasSuffix(text, "}") {
		text += ";"
	}
	return text + ends[len(inside):]
}

// P6.1: statements and expressions in one another, as many as may be, and one more: what is one deeper, and what isn't.
func TestDeep(t *testing.T) {
	for _, c := range []struct {
		ahead, again, behind string // again may stand so often, and no more often
		most                 int
	}{
		{"", "{", "", 40},
		{"", "{", ";", 39},
		{"", "{", "1;", 37},
		{"", "{", "{", 39},
		{"", "{", "break;", 39},
		{"", "{", "return;", 39},
		{"", "{", "return 1;", 37},
		{"", "{", "int a;", 39},
		{"", "{", "int a[1];", 39},
		{"", "{", "int a=1;", 37},
		{"", "{", "f();", 37},
		{"", "{", "f(1);", 35},
		{"", "{", "-1;", 36},
		{"", "{", "if(1);", 37},
		{"", "{", "if(1)if(1);", 36},
		{"", "{", "sizeof(int);", 37},
		{"", "{", "(int)1;", 36},
		{"", "{", "(int)malloc(1);", 35},
		{"", "{", "(1);", 35},
		{"", "{", "a[1];", 35},
		{"", "{", "a=1;", 36},
		{"", "if(1)", ";", 38},
		{"", "while(1)", ";", 38},
		{"", "if(1);else ", ";", 38},
		{"", "if(1)", "{}", 38},
		{"", "if(1)", "1;", 37},
		{"", "~", "1;", 37},
		{"", "- ", "a;", 37},
		{"", "& ", "a;", 37},
		{"", "(int)", "a;", 37},
		{"", "~", "f();", 37},
		{"", "~", "sizeof(int);", 37},
		{"", "~", "f(1);", 35},
		{"", "~", "(1);", 35},
		{"", "~", "a[1];", 35},
		{"", "~", "(int)1;", 36},
		{"", "~", "(int)malloc(1);", 35},
		{"", "~", "a=1;", 37},
		{"", "~", "a->b.c;", 37},
		{"", "(", "1", 18},
		{"", "a[", "1", 18},
		{"", "f(", "1", 18},
		{"", "f(", "", 19},
		{"", "(int*)malloc(", "1", 18},
		{"", "a=", "1;", 37},
		{"", "a=", "~1;", 36},
		{"int a=", "~", "1;", 37},
		{"return ", "~", "1;", 37},
		{"if(", "~", "1);", 37},
		{"while(", "~", "1);", 37},
		{"1+", "~", "1;", 37},
		{"1*1+1|", "~", "1;", 37},
		{"f(1,", "~", "1);", 35},
		{"1;{}{{}}if(1){};", "~", "1;", 37},
		{"~~~~1;", "~", "1;", 37},
		{"(int)(1)+", "~", "1;", 37},
	} {
		for n := c.most - 2; n <= c.most+2; n++ {
			want := api.OK
			if n > c.most {
				want = api.ErrDeep
			}
			text := closed(before + c.ahead + times(n, c.again) + c.behind)
			if _, at, e := parse.Parse(text); e != want {
				t.Errorf("P6.1: Parse(%q), %d times: %d, %d, want %d", text, n, at, e, want)
			}
		}
	}
	for text, want := range map[string]int{
		times(1000, "1+") + "1;":            0,
		times(400, "a=1;"):                  0,
		"a" + times(600, "[1]") + ";":       0,
		"a" + times(1000, ".b") + ";":       0,
		"a" + times(1000, "->b") + ";":      0,
		times(800, "{}"):                    0,
		times(400, "if(1);"):                0,
		"1" + times(600, "||-1") + ";":      0,
		"1" + times(200, "&(1)^f(2)") + ";": 0,
	} {
		if _, at, e := parse.Parse(before + text + "}"); int(e) != want {
			t.Errorf("P6.1: Parse(%.30q): %d, %d", text, at, e)
		}
	}
}

// P6.1: what is too deep is wrong at the token with which it begins, or at whatever stands where it would.
func TestDeepPlaces(t *testing.T) {
	for _, tail := range []string{"", ";", ")", "]", "1", "a", "else", "int", "{", "}", "~", "(", "malloc", "sizeof", ",", "=", "*", "break", "struct"} {
		for ahead, ends := range map[string]string{
			times(38, "~"):                  "",
			times(37, "~") + "a[":           "",
			times(37, "~") + "f(":           ")",
			times(36, "~") + "f(":           ")",
			times(37, "~") + "(":            "int struct",
			times(37, "~") + "(int)":        "malloc",
			times(37, "~") + "(int)malloc(": "",
			times(38, "a="):                 "",
			times(40, "{"):                  "}",
			times(39, "{") + "return ":      ";",
			times(38, "{") + "return ":      ";",
			times(39, "{") + "int a=":       "",
			times(39, "{") + "int a[2]=":    "",
			times(39, "{") + "if(":          "",
			times(38, "{") + "while(":       "",
			times(39, "{"):                  "{ } ; int struct break",
			times(38, "{"):                  "{ } ; int struct break",
		} {
			text := before + ahead + " "
			fails := !slices.Contains(strings.Fields(ends), tail)
			if got, want := parsed(text+tail), wrong(api.ErrDeep, len(text)); (got == want) != fails {
				t.Errorf("P6.1: Parse(%q): %s, deep is %s: %v", text+tail, got, want, fails)
			}
		}
	}
	for text, want := range map[string]string{
		times(39, "{") + "if 1":             wrong(api.ErrSyntax, 50),
		times(39, "{") + "int a=;":          wrong(api.ErrDeep, 53),
		times(37, "~") + "(int)malloc 1":    wrong(api.ErrSyntax, 57),
		times(37, "~") + "(int)int":         wrong(api.ErrDeep, 50),
		times(37, "~") + "sizeof 1":         wrong(api.ErrSyntax, 52),
		times(37, "~") + ";":                wrong(api.ErrSyntax, 45),
		times(35, "~") + "f(1,2,3,4,5,6,7":  wrong(api.ErrFull, 57),
		times(36, "~") + "f(1,2,3,4,5,6,7":  wrong(api.ErrDeep, 46),
		times(39, "{") + "int a[0]=1;":      wrong(api.ErrRange, 53),
		"a b;" + times(50, "~"):             wrong(api.ErrSyntax, 10),
		times(50, "~") + "a b;":             wrong(api.ErrDeep, 46),
		times(50, "{"):                      wrong(api.ErrDeep, 48),
		"1;" + times(50, "{"):               wrong(api.ErrDeep, 50),
		times(50, "if(1)"):                  wrong(api.ErrDeep, 8+38*5+3),
		times(50, "("):                      wrong(api.ErrDeep, 8+19),
		"if(1);" + times(45, "else if(1);"): wrong(api.ErrDeep, 8+6+38*11-3),
	} {
		if got := parsed(before + text); got != want {
			t.Errorf("P6.1: Parse(%q): %s, want %s", before+text, got, want)
		}
	}
}
