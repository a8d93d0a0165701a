package fat

import (
	"math"

	"hauberk/api"
	"hauberk/units"
)

// face is what a call has to know of a function: how many Params it has, and how many Args its FRets have, at least and at most. Of a function without one all calls have as many Outs as they may.
type face struct{ params, least, most int }

// names are what a unit's instructions may name.
type names struct {
	tops map[string]struct{}
	fns  map[string]face
}

// namesFit tells whether a unit of functions that are well formed is, too.
func namesFit(u api.Unit) bool {
	n := namesOf(u)
	if len(n.tops) < len(u.Tops) || len(n.fns) < len(u.Fns) {
		return false
	}
	main, ok := n.fns["main"]
	return ok && main.params == 0 &&
		units.All(u.Fns, func(f api.Fn) bool { return units.All(f.Code, n.has) })
}

// namesOf are fewer than a unit has, if some are the same.
func namesOf(u api.Unit) *names {
	n := &names{map[string]struct{}{}, map[string]face{}}
	for _, t := range u.Tops {
		n.tops[t.Name] = struct{}{}
	}
	for _, f := range u.Fns {
		n.fns[f.Name] = faceOf(&f)
	}
	return n
}

func faceOf(f *api.Fn) face {
	g := face{params: len(f.Params), least: math.MaxInt}
	for _, i := range f.Code {
		if i.Op == api.FRet {
			g.least = min(g.least, len(i.Args))
			g.most = max(g.most, len(i.Args))
		}
	}
	return g
}

// has tells whether what an instruction names is there, and, if it is a function, may be called so.
func (n *names) has(i api.Ins) bool {
	switch i.Op {
	case api.FTop:
		_, ok := n.tops[i.Name]
		return ok
	case api.FCall:
		g, ok := n.fns[i.Name]
		return ok && len(i.Args) == g.params && units.Within(len(i.Outs), g.most, g.least)
	}
	return true
}
