package mid

import (
	"slices"

	"hauberk/api"
	"hauberk/units"
)

// face is what a call has to know of a function: the kinds of its params, and those of what it answers (0, if it never does).
type face struct {
	params  []int
	answers int
}

// names are what a unit's instructions may name.
type names struct {
	tops map[string]struct{}
	fns  map[string]face
}

// namesFit tells whether a unit of functions that are well formed is, too.
func namesFit(u api.Unit) bool {
	n := namesOf(u)
	if len(n.tops) < len(u.Tops) || len(n.fns) < len(u.Fns) {
		return false
	}
	main, ok := n.fns["main"]
	return ok && len(main.params) == 0 && units.All(u.Fns, n.fit)
}

// namesOf are fewer than a unit has, if some are the same.
func namesOf(u api.Unit) *names {
	n := &names{map[string]struct{}{}, map[string]face{}}
	for _, t := range u.Tops {
		n.tops[t.Name] = struct{}{}
	}
	for _, f := range u.Fns {
		n.fns[f.Name] = face{kindsOf(&f, f.Params), answersOf(&f)}
	}
	return n
}

func kindsOf(f *api.Fn, registers []int) []int {
	kinds := make([]int, len(registers))
	for k, r := range registers {
		kinds[k] = f.Kinds[r]
	}
	return kinds
}

// answersOf are either, if a function answers of both kinds.
func answersOf(f *api.Fn) int {
	kinds := 0
	for _, i := range f.Code {
		if i.Op == api.MRet && i.A != none {
			kinds |= f.Kinds[i.A]
		}
	}
	return kinds
}

// fit tells whether a function answers of one kind, and what it names is there.
func (n *names) fit(f api.Fn) bool {
	return n.fns[f.Name].answers != either && units.All(f.Code, func(i api.Ins) bool { return n.has(&f, &i) })
}

// has tells whether what an instruction names is there, and, if it is a function, may be called so.
func (n *names) has(f *api.Fn, i *api.Ins) bool {
	switch i.Op {
	case api.MTop:
		_, ok := n.tops[i.Name]
		return ok
	case api.MCall:
		g, ok := n.fns[i.Name]
		return ok && slices.Equal(kindsOf(f, i.Args), g.params) &&
			(i.Dst == none || g.answers == 0 || g.answers == f.Kinds[i.Dst])
	}
	return true
}
