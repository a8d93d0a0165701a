package sem

import (
	"hauberk/api"
	"hauberk/heap"
	"hauberk/lay"
)

// plan is a program as it will be run: the pointers to the variables at the top, and the functions as routines.
type plan struct {
	structs     []api.Struct
	tops        map[string]heap.Ptr
	routines    map[string]*routine
	known       map[string]deed
	operations  map[string]operation
	comparisons map[string]comparison
}

// plan makes the blocks of the variables at the top, which stand to the end of the run. A routine is there ahead of its deeds, since functions may call ones that come later.
func (w *world) plan(p api.Program) *plan {
	l := &plan{
		structs:     p.Structs,
		tops:        map[string]heap.Ptr{},
		routines:    map[string]*routine{},
		known:       known(),
		operations:  operations(),
		comparisons: comparisons(),
	}
	for _, v := range p.Vars {
		l.tops[v.Name] = w.block(l.room(v), false)
	}
	for _, f := range p.Funcs {
		l.routines[f.Name] = &routine{params: len(f.Params)}
	}
	for i := range p.Funcs {
		l.fill(&p.Funcs[i])
	}
	return l
}

// fill makes the deeds of a function.
func (l *plan) fill(f *api.Func) {
	m := &maker{plan: l, routine: l.routines[f.Name], locals: map[string]int{}}
	for _, v := range f.Params {
		m.local(v)
	}
	m.stmts(f.Body.Kids)
	m.constant(heap.Value{})
	m.add((*frame).leave)
}

func (l *plan) size(t api.Type) int {
	n, _ := lay.Size(l.structs, t)
	return n
}

// room is the size of a variable's block.
func (l *plan) room(v api.Var) int { return l.size(v.Type) * max(v.Len, 1) }

// pointed is the size of what a type points to.
func (l *plan) pointed(t api.Type) int {
	t.Stars--
	return l.size(t)
}
