// Package units is for layers 10 and 12: what is asked alike of units in both middle languages, for these to be well formed.
package units

import "hauberk/api"

// Top tells whether a variable is right.
func Top(t api.Top) bool { return t.Name != "" && Within(t.Size, 0, api.MaxMemory) }

// Head tells whether all of a function but its Code is right, where there are so many kinds of registers.
func Head(f *api.Fn, kinds int) bool {
	return f.Name != "" &&
		All(f.Kinds, func(kind int) bool { return Within(kind, 1, kinds) }) &&
		All(f.Slots, func(size int) bool { return Within(size, 1, api.MaxFrame) }) &&
		Registers(f, f.Params) && Differ(f.Params)
}

// Register tells whether a function has this one.
func Register(f *api.Fn, r int) bool { return Within(r, 0, len(f.Kinds)-1) }

// Registers tells whether a function has all of these.
func Registers(f *api.Fn, l []int) bool {
	return All(l, func(r int) bool { return Register(f, r) })
}

// End tells whether nothing leads behind the last instruction of a function, whose calls end by instructions of the Op back.
func End(f *api.Fn, back int) bool {
	if len(f.Code) == 0 {
		return false
	}
	op := f.Code[len(f.Code)-1].Op
	return op == back || op == api.MJump || op == api.MExit
}

// To tells whether an instruction leads to one of its function, if it leads to any.
func To(f *api.Fn, i *api.Ins) bool {
	if i.Op == api.MJump || i.Op == api.MIf {
		return Within(i.To, 0, len(f.Code)-1)
	}
	return i.To == 0
}

// Operation tells whether a number is that of one.
func Operation(n uint64) bool { return n >= api.ADD && n <= api.REMUW }

// Width tells whether as many bytes may be loaded or stored at once.
func Width(size int) bool { return size == 1 || size == 4 || size == 8 }

// All tells whether something holds of each of a list.
func All[T any](l []T, holds func(T) bool) bool {
	for _, x := range l {
		if !holds(x) {
			return false
		}
	}
	return true
}

// Differ tells whether no two of a list are the same.
func Differ[T comparable](l []T) bool {
	seen := map[T]struct{}{}
	for _, x := range l {
		seen[x] = struct{}{}
	}
	return len(seen) == len(l)
}

// Within tells whether a number is one from low to high.
func Within(n, low, high int) bool { return low <= n && n <= high }
