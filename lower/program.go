package lower

import (
	"hauberk/api"
	"hauberk/lay"
)

// program is what all that is made of one asks for.
type program struct {
	api.Program
	operations  map[string][2]int
	comparisons map[string][3]int
}

func newProgram(p api.Program) *program {
	return &program{Program: p, operations: operations(), comparisons: comparisons()}
}

// unit makes the whole of it. A panic comes only of a tree that no check answered, which lacks what a right one has: of that nothing is told.
func (p *program) unit() (u api.Unit) {
	defer func() {
		if recover() != nil {
			u = api.Unit{}
		}
	}()
	for _, v := range p.Vars {
		u.Tops = append(u.Tops, api.Top{Name: v.Name, Size: p.room(v)})
	}
	for i := range p.Funcs {
		u.Fns = append(u.Fns, p.function(&p.Funcs[i]))
	}
	return u
}

// function keeps each param and each local in a slot: so each has a block as long as the call, wherever a pointer to it has got to.
func (p *program) function(f *api.Func) api.Fn {
	m := &maker{program: p, Fn: api.Fn{Name: f.Name}, slots: map[string]uint64{}, jumps: map[int]*label{}}
	for _, v := range f.Params {
		m.param(v)
	}
	m.stmts(f.Body.Kids)
	m.end(f.Type)
	m.join()
	return m.Fn
}

func (p *program) size(t api.Type) int {
	n, _ := lay.Size(p.Structs, t)
	return n
}

// room is the size of a variable.
func (p *program) room(v api.Var) int { return p.size(v.Type) * max(v.Len, 1) }

func isPointer(t api.Type) bool { return t.Stars > 0 }
