package lay_test

import (
	"reflect"
	"strconv"
	"testing"

	"hauberk/api"
	"hauberk/lay"
)

var (
	void = api.Type{Base: api.Void}
	char = api.Type{Base: api.Char}
	in   = api.Type{Base: api.Int}
	long = api.Type{Base: api.Long}
)

// to is the type of pointers, of so many stars, around a type.
func to(t api.Type, stars int) api.Type {
	t.Stars += stars
	return t
}

func record(name string) api.Type { return api.Type{Base: api.Record, Struct: name} }

// fields are of these types, named a, b and on, at places from 100 on.
func fields(types ...api.Type) []api.Field {
	l := []api.Field{}
	for i, t := range types {
		l = append(l, api.Field{Name: string(rune('a' + i)), Type: t, At: 100 + i})
	}
	return l
}

func chars(n int) []api.Field {
	l := make([]api.Type, n)
	for i := range l {
		l[i] = char
	}
	return fields(l...)
}

// some are structs that are right, with pointers to themselves, to ones ahead and to ones behind.
func some() []api.Struct {
	return []api.Struct{
		{Name: "s", Fields: fields(char, long, in), At: 1},
		{Name: "n", Fields: fields(to(record("n"), 1), char, to(record("z"), 4)), At: 2},
		{Name: "i", Fields: fields(char, in, char, char, in), At: 3},
		{Name: "c", Fields: fields(char, char, char), At: 4},
		{Name: "z", Fields: fields(in, to(char, 1), char, in, to(in, 2), in, to(record("s"), 3)), At: 5},
	}
}

// many are so many structs of one char each, named 0, 1 and on, at places from 200 on.
func many(n int) []api.Struct {
	l := []api.Struct{}
	for i := range n {
		l = append(l, api.Struct{Name: strconv.Itoa(i), Fields: chars(1), At: 200 + i})
	}
	return l
}

// P4.1: structs written out: the chapter's example, what is between fields and behind them, pointers.
func TestOf(t *testing.T) {
	for name, want := range map[string]lay.Lay{
		"s": {Size: 24, Line: 8, Offs: []int{0, 8, 16}},
		"n": {Size: 24, Line: 8, Offs: []int{0, 8, 16}},
		"i": {Size: 16, Line: 4, Offs: []int{0, 4, 8, 9, 12}},
		"c": {Size: 3, Line: 1, Offs: []int{0, 1, 2}},
		"z": {Size: 48, Line: 8, Offs: []int{0, 8, 16, 20, 24, 32, 40}},
	} {
		if y, e := lay.Of(some(), name); !reflect.DeepEqual(y, want) || e != api.OK {
			t.Errorf("P4.1: Of(%s): %v, %d, want %v", name, y, e, want)
		}
	}
}

// P4.1, R3: names of no struct, and of no field.
func TestNames(t *testing.T) {
	for _, name := range []string{"", "a", "S", "ss", "long"} {
		if y, e := lay.Of(some(), name); !reflect.DeepEqual(y, lay.Lay{}) || e != api.ErrName {
			t.Errorf("P4.1: Of(%q): %v, %d", name, y, e)
		}
		if x, at, e := lay.Field(some(), name, "a"); x != void || at != 0 || e != api.ErrName {
			t.Errorf("P4.1: Field(%q, a): %v, %d, %d", name, x, at, e)
		}
		if x, at, e := lay.Field(some(), "z", name+"z"); x != void || at != 0 || e != api.ErrName {
			t.Errorf("P4.1: Field(z, %q): %v, %d, %d", name+"z", x, at, e)
		}
	}
	if y, e := lay.Of(nil, "s"); !reflect.DeepEqual(y, lay.Lay{}) || e != api.ErrName {
		t.Errorf("P4.1: Of no structs: %v, %d", y, e)
	}
}

// P4.1: a field's type, and where it stands, in the struct that is asked for.
func TestField(t *testing.T) {
	for _, c := range []struct {
		name, field string
		want        api.Type
		off         int
	}{
		{"s", "a", char, 0}, {"s", "b", long, 8}, {"s", "c", in, 16},
		{"n", "a", to(record("n"), 1), 0}, {"n", "b", char, 8}, {"n", "c", to(record("z"), 4), 16},
		{"i", "d", char, 9}, {"i", "e", in, 12}, {"c", "c", char, 2},
		{"z", "d", in, 20}, {"z", "e", to(in, 2), 24}, {"z", "g", to(record("s"), 3), 40},
	} {
		if x, off, e := lay.Field(some(), c.name, c.field); x != c.want || off != c.off || e != api.OK {
			t.Errorf("P4.1: Field(%s, %s): %v, %d, %d, want %v, %d", c.name, c.field, x, off, e, c.want, c.off)
		}
	}
	if x, off, e := lay.Field(some(), "c", "d"); x != void || off != 0 || e != api.ErrName {
		t.Errorf("P4.1: Field(c, d), a name of another struct's field: %v, %d, %d", x, off, e)
	}
}

// P4.1: Known and Size of all types around those that there are.
func TestTypes(t *testing.T) {
	numbers := []int{api.Char: 1, api.Int: 4, api.Long: 8}
	structs := map[string]int{"s": 24, "n": 24, "i": 16, "c": 3, "z": 48}
	for base := -2; base <= 7; base++ {
		for stars := -2; stars <= 6; stars++ {
			for _, name := range []string{"", "s", "n", "i", "c", "z", "x"} {
				known := stars >= 0 && stars <= 4 && base >= api.Void && base <= api.Record
				if base == api.Record {
					known = known && structs[name] > 0
				} else {
					known = known && name == ""
				}
				size, e := 0, api.ErrType
				switch {
				case !known || base == api.Void && stars == 0:
				case stars > 0:
					size, e = 8, api.OK
				case base == api.Record:
					size, e = structs[name], api.OK
				default:
					size, e = numbers[base], api.OK
				}
				x := api.Type{Base: base, Stars: stars, Struct: name}
				if k := lay.Known(some(), x); k != known {
					t.Errorf("P4.1: Known(%v): %v", x, k)
				}
				if n, g := lay.Size(some(), x); n != size || g != e {
					t.Errorf("P4.1: Size(%v): %d, %d, want %d, %d", x, n, g, size, e)
				}
			}
		}
	}
}

// P4.1: types written out, and of no structs.
func TestTypesWrittenOut(t *testing.T) {
	for _, c := range []struct {
		l     []api.Struct
		t     api.Type
		known bool
		size  int
		e     api.Errno
	}{
		{nil, void, true, 0, api.ErrType}, {nil, to(void, 1), true, 8, api.OK}, {nil, to(void, 5), false, 0, api.ErrType},
		{nil, char, true, 1, api.OK}, {nil, in, true, 4, api.OK}, {nil, long, true, 8, api.OK},
		{nil, to(long, 4), true, 8, api.OK}, {nil, to(long, 5), false, 0, api.ErrType},
		{nil, record("s"), false, 0, api.ErrType}, {nil, to(record("s"), 1), false, 0, api.ErrType}, {nil, record(""), false, 0, api.ErrType},
		{some(), record("s"), true, 24, api.OK}, {some(), to(record("s"), 4), true, 8, api.OK}, {some(), to(record("s"), 5), false, 0, api.ErrType},
		{some(), api.Type{Base: api.Long, Struct: "s"}, false, 0, api.ErrType}, {some(), api.Type{Struct: "s", Stars: 1}, false, 0, api.ErrType},
	} {
		if k := lay.Known(c.l, c.t); k != c.known {
			t.Errorf("P4.1: Known(%v): %v", c.t, k)
		}
		if n, e := lay.Size(c.l, c.t); n != c.size || e != c.e {
			t.Errorf("P4.1: Size(%v): %d, %d, want %d, %d", c.t, n, e, c.size, c.e)
		}
	}
}

// P4.1: what is no struct, in order, with its type.
func TestCells(t *testing.T) {
	for _, c := range []struct {
		t    api.Type
		n    int
		want []lay.Cell
	}{
		{long, 0, nil}, {record("s"), 0, nil},
		{char, 3, []lay.Cell{{0, char}, {1, char}, {2, char}}},
		{in, 2, []lay.Cell{{0, in}, {4, in}}},
		{to(void, 1), 2, []lay.Cell{{0, to(void, 1)}, {8, to(void, 1)}}},
		{to(record("c"), 1), 2, []lay.Cell{{0, to(record("c"), 1)}, {8, to(record("c"), 1)}}},
		{record("s"), 1, []lay.Cell{{0, char}, {8, long}, {16, in}}},
		{record("n"), 2, []lay.Cell{
			{0, to(record("n"), 1)}, {8, char}, {16, to(record("z"), 4)},
			{24, to(record("n"), 1)}, {32, char}, {40, to(record("z"), 4)}}},
		{record("c"), 2, []lay.Cell{{0, char}, {1, char}, {2, char}, {3, char}, {4, char}, {5, char}}},
	} {
		l, e := lay.Cells(some(), c.t, c.n)
		if e != api.OK || len(l) != len(c.want) || len(l) > 0 && !reflect.DeepEqual(l, c.want) {
			t.Errorf("P4.1: Cells(%v, %d): %v, %d, want %v", c.t, c.n, l, e, c.want)
		}
	}
}

// P4.1, R2, R3: Cells of too many, of fewer than none, of a type that has no size; the number is looked at first.
func TestCellsErrors(t *testing.T) {
	none := []api.Type{void, record("x"), to(record("x"), 1), to(in, 5), {Base: 5}, {Base: -1}, {Base: api.Int, Struct: "s"}}
	for _, c := range []struct {
		n    int
		good bool
	}{{-1 << 63, false}, {-1, false}, {0, true}, {1, true}, {499, true}, {500, true}, {501, false}, {1<<63 - 1, false}} {
		for _, x := range none {
			want := api.ErrRange
			if c.good {
				want = api.ErrType
			}
			if l, e := lay.Cells(some(), x, c.n); len(l) != 0 || e != want {
				t.Errorf("P4.1: Cells(%v, %d): %d of them, %d, want %d", x, c.n, len(l), e, want)
			}
		}
		l, e := lay.Cells(some(), record("s"), c.n)
		switch {
		case c.good && (len(l) != 3*c.n || e != api.OK):
			t.Errorf("P4.1: Cells(s, %d): %d of them, %d", c.n, len(l), e)
		case !c.good && (len(l) != 0 || e != api.ErrRange):
			t.Errorf("P4.1: Cells(s, %d): %d of them, %d", c.n, len(l), e)
		}
	}
}

// P4.1: structs that are right: none, the most, of the most fields, of all types that a field may have; the names of different structs' fields may be the same, and a field's that of a struct.
func TestRight(t *testing.T) {
	most := many(20)
	for i := range most {
		most[i].Fields = chars(12)
	}
	for i, l := range [][]api.Struct{
		nil, {}, some(), many(20), most,
		{{Name: "s", Fields: fields(char, in, long, to(char, 1), to(in, 2), to(long, 3), to(char, 4), to(record("s"), 1), to(record("s"), 4))}},
		{{Name: "a", Fields: fields(to(record("b"), 1), char)}, {Name: "b", Fields: fields(to(record("a"), 1))}},
	} {
		if at, e := lay.Check(l); at != 0 || e != api.OK {
			t.Errorf("P4.1: Check of right ones, %d: %d, %d", i, at, e)
		}
	}
}

func one(fields []api.Field) []api.Struct { return []api.Struct{{Name: "s", Fields: fields, At: 7}} }

// P4.1: each way in which structs may be wrong, alone.
func TestWrong(t *testing.T) {
	for i, c := range []struct {
		l  []api.Struct
		at int
		e  api.Errno
	}{
		{many(21), 220, api.ErrFull}, {many(40), 220, api.ErrFull},
		{append(some(), one(chars(1))...), 7, api.ErrName},
		{one(nil), 7, api.ErrFull}, {one(fields()), 7, api.ErrFull}, {one(chars(13)), 7, api.ErrFull},
		{append(some(), api.Struct{Name: "x", At: 9}), 9, api.ErrFull},
		{one([]api.Field{{Name: "a", Type: char, At: 8}, {Name: "b", Type: in, At: 9}, {Name: "a", Type: long, At: 10}}), 10, api.ErrName},
		{one(fields(char, to(record("x"), 1))), 101, api.ErrName}, {one(fields(record("x"))), 100, api.ErrName},
		{one(fields(to(record("x"), 5))), 100, api.ErrName}, {one(fields(to(record("x"), -1))), 100, api.ErrName}, {one(fields(record(""))), 100, api.ErrName},
		{one(fields(in, record("s"))), 101, api.ErrType},
		{one(fields(to(record("s"), 5))), 100, api.ErrType}, {one(fields(to(record("s"), -1))), 100, api.ErrType},
		{one(fields(void)), 100, api.ErrType}, {one(fields(to(void, 1))), 100, api.ErrType}, {one(fields(to(void, 4))), 100, api.ErrType},
		{one(fields(to(char, 5))), 100, api.ErrType}, {one(fields(to(long, -1))), 100, api.ErrType},
		{one(fields(api.Type{Base: 5})), 100, api.ErrType}, {one(fields(api.Type{Base: 5, Stars: 1})), 100, api.ErrType}, {one(fields(api.Type{Base: -1, Stars: 1})), 100, api.ErrType},
		{one(fields(char, api.Type{Base: api.Int, Struct: "s"})), 101, api.ErrType}, {one(fields(api.Type{Base: api.Int, Struct: "x", Stars: 1})), 100, api.ErrType},
	} {
		if at, e := lay.Check(c.l); at != c.at || e != c.e {
			t.Errorf("P4.1: Check of wrong ones, %d: %d, %d, want %d, %d", i, at, e, c.at, c.e)
		}
	}
}

// P4.1, R2: of two things that are wrong the one that the chapter names first, or that stands first.
func TestWrongTwice(t *testing.T) {
	full := many(21)
	full[0].Fields = nil
	for i, c := range []struct {
		l  []api.Struct
		at int
		e  api.Errno
	}{
		{full, 220, api.ErrFull},
		{[]api.Struct{{Name: "s", Fields: chars(1), At: 1}, {Name: "s", At: 2}}, 2, api.ErrName},
		{[]api.Struct{{Name: "s", Fields: fields(void), At: 1}, {Name: "s", Fields: chars(1), At: 2}}, 100, api.ErrType},
		{[]api.Struct{{Name: "s", At: 1}, {Name: "s", Fields: chars(1), At: 2}}, 1, api.ErrFull},
		{one(append(chars(12), api.Field{Name: "a", Type: void, At: 3})), 7, api.ErrFull},
		{one([]api.Field{{Name: "a", Type: char, At: 8}, {Name: "a", Type: void, At: 9}}), 9, api.ErrName},
		{one([]api.Field{{Name: "a", Type: void, At: 8}, {Name: "a", Type: char, At: 9}}), 8, api.ErrType},
		{one(fields(record("s"), record("x"))), 100, api.ErrType},
		{one(fields(record("x"), record("s"))), 100, api.ErrName},
	} {
		if at, e := lay.Check(c.l); at != c.at || e != c.e {
			t.Errorf("P4.1: Check of ones wrong twice, %d: %d, %d, want %d, %d", i, at, e, c.at, c.e)
		}
	}
}
