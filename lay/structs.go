package lay

import (
	"slices"

	"hauberk/api"
)

const mostStars = 4

// findStruct is where the struct of a name is among them; -1, if nowhere.
func findStruct(l []api.Struct, name string) int {
	return slices.IndexFunc(l, func(s api.Struct) bool { return s.Name == name })
}

func isStruct(l []api.Struct, name string) bool { return findStruct(l, name) >= 0 }

// findField is where the field of a name is among them; -1, if nowhere.
func findField(fields []api.Field, name string) int {
	return slices.IndexFunc(fields, func(f api.Field) bool { return f.Name == name })
}

// checkFields tells whether one struct's fields are right, and the place where not.
func checkFields(l []api.Struct, fields []api.Field) (int, api.Errno) {
	for i, f := range fields {
		switch {
		case findField(fields[:i], f.Name) >= 0, f.Type.Base == api.Record && !isStruct(l, f.Type.Struct):
			return f.At, api.ErrName
		case !mayBeField(l, f.Type):
			return f.At, api.ErrType
		}
	}
	return 0, api.OK
}

// mayBeField tells whether it is a type of which a field may be.
func mayBeField(l []api.Struct, t api.Type) bool {
	return Known(l, t) && t.Base != api.Void && !isWhole(t)
}

// isWhole tells of a type whether it is a struct itself, not a pointer to one.
func isWhole(t api.Type) bool { return t.Base == api.Record && t.Stars == 0 }
