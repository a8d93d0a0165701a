package mid

// all tells whether something holds of each of a list.
func all[T any](l []T, holds func(T) bool) bool {
	for _, x := range l {
		if !holds(x) {
			return false
		}
	}
	return true
}

// differ tells whether no two of a list are the same.
func differ[T comparable](l []T) bool {
	seen := map[T]struct{}{}
	for _, x := range l {
		seen[x] = struct{}{}
	}
	return len(seen) == len(l)
}

func within(n, low, high int) bool { return low <= n && n <= high }
