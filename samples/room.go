package samples

import "hauberk/api"

// mark is put into spare room.
const mark = 77

// Filled: the same list, as a new one that has marks in its spare room.
func Filled[T any](l []T, mark T) []T {
	long := append(append(make([]T, 0, len(l)+3), l...), mark, mark, mark)
	return long[:len(l)]
}

// Roomy: the same unit, of new lists that have spare room.
func Roomy(u api.Unit) api.Unit {
	var fns []api.Fn
	for _, f := range u.Fns {
		var code []api.Ins
		for _, i := range f.Code {
			i.Args, i.Outs = Filled(i.Args, mark), Filled(i.Outs, mark)
			code = append(code, i)
		}
		f.Params, f.Kinds, f.Slots = Filled(f.Params, mark), Filled(f.Kinds, mark), Filled(f.Slots, mark)
		f.Code = Filled(code, api.Ins{Op: mark})
		fns = append(fns, f)
	}
	return api.Unit{Tops: Filled(u.Tops, api.Top{Name: "spare"}), Fns: Filled(fns, api.Fn{Name: "spare"})}
}

// bare is a list and its spare room.
func bare[T any](l []T) []T { return append([]T{}, l[:cap(l)]...) }

// Bare: a unit of new lists in which the spare room of the old ones is no longer spare.
func Bare(u api.Unit) api.Unit {
	u.Tops, u.Fns = bare(u.Tops), bare(u.Fns)
	for k, f := range u.Fns {
		f.Params, f.Kinds, f.Slots, f.Code = bare(f.Params), bare(f.Kinds), bare(f.Slots), bare(f.Code)
		for j, i := range f.Code {
			f.Code[j].Args, f.Code[j].Outs = bare(i.Args), bare(i.Outs)
		}
		u.Fns[k] = f
	}
	return u
}
