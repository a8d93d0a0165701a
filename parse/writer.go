package parse

import (
	"slices"
	"strconv"
	"strings"

	"hauberk/api"
)

// writer tells a tree, a line for each part, with how many parts of which lists follow it: so no two trees are told the same.
type writer struct{ strings.Builder }

func (w *writer) line(parts ...string) {
	w.WriteString(strings.Join(parts, " "))
	w.WriteByte('\n')
}

func (w *writer) program(p api.Program) {
	w.line("program", count(p.Structs), count(p.Vars), count(p.Funcs))
	for _, s := range p.Structs {
		w.line("struct", strconv.Quote(s.Name), count(s.Fields))
		for _, f := range s.Fields {
			w.line("field", strconv.Quote(f.Name), typeText(f.Type))
		}
	}
	for _, v := range p.Vars {
		w.line("var", varText(v))
	}
	for i := range p.Funcs {
		w.function(&p.Funcs[i])
	}
}

func (w *writer) function(f *api.Func) {
	w.line("func", strconv.Quote(f.Name), typeText(f.Type), count(f.Params))
	for _, v := range f.Params {
		w.line("param", varText(v))
	}
	walk(&f.Body, func(s *api.Stmt) []api.Stmt {
		w.line("stmt", strconv.Itoa(s.Kind), varText(s.Var), count(s.Exprs), count(s.Kids))
		for i := range s.Exprs {
			w.expr(&s.Exprs[i])
		}
		return s.Kids
	})
}

func (w *writer) expr(x *api.Expr) {
	walk(x, func(x *api.Expr) []api.Expr {
		w.line("expr", strconv.Itoa(x.Kind), strconv.Quote(x.Op), strconv.Quote(x.Name), strconv.FormatUint(x.Num, 10), typeText(x.Type), count(x.Kids))
		return x.Kids
	})
}

// walk tells a part and all that stands in it, each ahead of its kids, which tell answers. What is still to come is kept in a list, since a tree may be deeper than calls may be in one another.
func walk[T any](first *T, tell func(*T) []T) {
	todo := []*T{first}
	for len(todo) > 0 {
		last := len(todo) - 1
		kids := tell(todo[last])
		todo = todo[:last]
		for i := range slices.Backward(kids) {
			todo = append(todo, &kids[i])
		}
	}
}

func varText(v api.Var) string {
	return strconv.Quote(v.Name) + " " + typeText(v.Type) + " " + strconv.Itoa(v.Len)
}

func typeText(t api.Type) string {
	return strconv.Itoa(t.Base) + " " + strconv.Itoa(t.Stars) + " " + strconv.Quote(t.Struct)
}

func count[T any](l []T) string { return strconv.Itoa(len(l)) }
