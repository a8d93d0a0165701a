package check

import (
	"slices"

	"hauberk/api"
)

// plain is the type of that base alone.
func plain(base int) api.Type { return api.Type{Base: base} }

func isNumber(t api.Type) bool {
	return t == plain(api.Char) || t == plain(api.Int) || t == plain(api.Long)
}

func isPointer(t api.Type) bool { return t.Stars > 0 }

func isValue(t api.Type) bool { return isNumber(t) || isPointer(t) }

func isStruct(t api.Type) bool { return t.Base == api.Record && !isPointer(t) }

// pointerTo may have a star too many: whether a type is one, is asked of each expression.
func pointerTo(t api.Type) api.Type {
	t.Stars++
	return t
}

// pointed is what a type points to; false, if it is no pointer, or none to what has a size.
func (c *checker) pointed(t api.Type) (api.Type, bool) {
	if !isPointer(t) {
		return api.Type{}, false
	}
	t.Stars--
	return t, c.hasSize(t)
}

// wide is the type in which numbers of such types are reckoned.
func wide(l ...api.Type) api.Type {
	if slices.Contains(l, plain(api.Long)) {
		return plain(api.Long)
	}
	return plain(api.Int)
}

func isNought(x api.Expr) bool { return x.Kind == api.ENum && x.Num == 0 }

// isLvalue is asked of an expression that was checked: so the Num of an EName tells whether it is an array.
func isLvalue(x api.Expr) bool {
	switch x.Kind {
	case api.EName:
		return x.Num == 0
	case api.EUnary:
		return x.Op == "*"
	}
	return x.Kind == api.EIndex || x.Kind == api.EField
}

// as is an expression where a value of a type is asked for; false, if it may not stand there.
func as(x api.Expr, asked api.Type) (api.Expr, bool) {
	switch {
	case x.Type == asked:
		return x, isValue(asked)
	case isNumber(x.Type) && isNumber(asked):
		return api.Expr{Kind: api.ECast, Kids: []api.Expr{x}, Type: asked, At: x.At}, true
	case isNought(x) && isPointer(asked):
		x.Type = asked
		return x, true
	}
	return x, false
}

// fit makes expressions what is asked for, one by one; ErrType, if one may not be, or there are more or less.
func fit(l []api.Expr, asked ...api.Type) api.Errno {
	if len(l) != len(asked) {
		return api.ErrType
	}
	for i, t := range asked {
		x, ok := as(l[i], t)
		if !ok {
			return api.ErrType
		}
		l[i] = x
	}
	return api.OK
}
