package samples

import (
	"math"
	"slices"

	"hauberk/api"
	"hauberk/chance"
)

// values are those that each number of an instruction is tried with.
func values() []int {
	return []int{math.MinInt, -2, -1, 0, 1, 2, 3, 4, 5, 7, 8, 9, 23, 24, 27, 28, 29, 30, 31, 43, 44, api.MaxMemory - 1, api.MaxMemory, api.MaxMemory + 1, 1 << 32, math.MaxInt}
}

func names() []string {
	return []string{"", "v", "w", "x", "number", "pointer", "nothing", "main", "v0", "main0", "f0", "f1"}
}

// Changes: the instruction with one of its parts as another one, in many ways.
func Changes(i api.Ins) []api.Ins {
	var l []api.Ins
	add := func(change func(i *api.Ins)) {
		j := i
		change(&j)
		l = append(l, j)
	}
	for op := range 48 {
		add(func(i *api.Ins) { i.Op = op })
	}
	for _, name := range names() {
		add(func(i *api.Ins) { i.Name = name })
	}
	for _, v := range values() {
		add(func(i *api.Ins) { i.Op = v })
		add(func(i *api.Ins) { i.Dst = v })
		add(func(i *api.Ins) { i.A = v })
		add(func(i *api.Ins) { i.B = v })
		add(func(i *api.Ins) { i.N = uint64(v) })
		add(func(i *api.Ins) { i.Size = v })
		add(func(i *api.Ins) { i.To = v })
	}
	for _, args := range lists(i.Args) {
		add(func(i *api.Ins) { i.Args = args })
	}
	for _, outs := range lists(i.Outs) {
		add(func(i *api.Ins) { i.Outs = outs })
	}
	return l
}

// lists are a list with one less, one more, or one as another.
func lists(l []int) [][]int {
	all := [][]int{nil, {}, slices.Clone(l[:max(len(l)-1, 0)])}
	for _, v := range values() {
		all = append(all, []int{v}, append(slices.Clone(l), v))
		for k := range l {
			other := slices.Clone(l)
			other[k] = v
			all = append(all, other)
		}
	}
	return all
}

// some is a place in a list; or its end, where the list is empty.
func some[T any](s *chance.Source, l []T) int { return s.Below(max(len(l), 1)) }

// Spoil makes something of a unit that has a function another thing, mostly a wrong one.
func Spoil(s *chance.Source, u *api.Unit) {
	f := &u.Fns[some(s, u.Fns)]
	switch s.Below(14) {
	case 0:
		f.Name = chance.Pick(s, names()...)
	case 1:
		f.Params = append(f.Params, s.Below(10)-1)
	case 2:
		f.Kinds = append(f.Kinds[:some(s, f.Kinds)], s.Below(4))
	case 3:
		f.Kinds = f.Kinds[:some(s, f.Kinds)]
	case 4:
		f.Slots = append(f.Slots, chance.Pick(s, 0, 1, -1, api.MaxFrame, api.MaxFrame+1, int(s.Next())))
	case 5:
		f.Slots = f.Slots[:some(s, f.Slots)]
	case 6:
		f.Code = f.Code[:some(s, f.Code)]
	case 7:
		u.Tops = append(u.Tops, api.Top{Name: chance.Pick(s, names()...), Size: chance.Pick(s, 0, 8, api.MaxMemory, api.MaxMemory+1, -1)})
	case 8:
		u.Tops = u.Tops[some(s, u.Tops):]
	case 9:
		u.Fns = append(u.Fns, *f)
	default:
		for k := range f.Code {
			if some(s, f.Code) == 0 {
				f.Code[k] = chance.Pick(s, Changes(f.Code[k])...)
			}
		}
	}
}

// Wild: a unit of anything.
func Wild(seed int) api.Unit {
	s := chance.New(seed)
	var u api.Unit
	for range s.Below(3) {
		u.Tops = append(u.Tops, api.Top{Name: chance.Pick(&s, names()...), Size: number(&s)})
	}
	for range s.Below(3) {
		f := api.Fn{Name: chance.Pick(&s, names()...), Params: numbers(&s), Kinds: numbers(&s), Slots: numbers(&s)}
		for range s.Below(5) {
			f.Code = append(f.Code, api.Ins{Op: s.Below(46) - 1, Dst: number(&s), A: number(&s), B: number(&s), N: uint64(number(&s)), Size: number(&s), Name: chance.Pick(&s, names()...), Args: numbers(&s), Outs: numbers(&s), To: number(&s)})
		}
		u.Fns = append(u.Fns, f)
	}
	return u
}

func number(s *chance.Source) int {
	return chance.Pick(s, chance.Pick(s, values()...), s.Below(4), int(s.Next()))
}

func numbers(s *chance.Source) []int {
	var l []int
	for range s.Below(4) {
		l = append(l, number(s))
	}
	return l
}
