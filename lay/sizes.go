package lay

import "hauberk/api"

const pointerSize = 8

// sizes are the sizes of types that are no pointers.
type sizes map[api.Type]int

// numbers are all such of which a field may be.
func numbers() sizes {
	return sizes{{Base: api.Char}: 1, {Base: api.Int}: 4, {Base: api.Long}: 8}
}

// of is the size of a type of which a field may be, which is its line too.
func (s sizes) of(t api.Type) int {
	if t.Stars > 0 {
		return pointerSize
	}
	return s[t]
}

// lay puts fields one behind the other.
func (s sizes) lay(fields []api.Field) Lay {
	y := Lay{Offs: make([]int, 0, len(fields))}
	for _, f := range fields {
		size := s.of(f.Type)
		off := next(y.Size, size)
		y.Offs = append(y.Offs, off)
		y.Size = off + size
		y.Line = max(y.Line, size)
	}
	y.Size = next(y.Size, y.Line)
	return y
}

// next is the next multiple of a line, n itself if it is one. Lines are powers of 2, so no division is needed, which would panic at a field that has none.
func next(n, line int) int { return (n + line - 1) &^ (line - 1) }
