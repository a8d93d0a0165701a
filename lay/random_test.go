package lay_test

import (
	"math/rand"
	"reflect"
	"slices"
	"testing"

	"hauberk/api"
	"hauberk/lay"
)

// pick is one of them.
func pick[T any](r *rand.Rand, l ...T) T { return l[r.Intn(len(l))] }

// rightStructs are structs that are right, with names of few letters, pointing to each other.
func rightStructs(r *rand.Rand) []api.Struct {
	l := many(1 + r.Intn(20))
	for i := range l {
		types := []api.Type{}
		for range 1 + r.Intn(12) {
			x := to(pick(r, char, char, in, long), pick(r, 0, 0, 0, 1, 4))
			if r.Intn(5) == 0 {
				x = to(record(l[r.Intn(len(l))].Name), 1+r.Intn(4))
			}
			types = append(types, x)
		}
		l[i].Fields = fields(types...)
	}
	return l
}

// wild are structs that may be wrong in any way, or in several.
func wild(r *rand.Rand) []api.Struct {
	l := rightStructs(r)
	for range r.Intn(5) {
		s := &l[r.Intn(len(l))]
		switch r.Intn(6) {
		case 0:
			s.Name = pick(r, "", "0", "1", "x")
		case 1:
			s.Fields = chars(pick(r, 0, 12, 13, 20))
		case 2:
			l = append(l, many(18 + r.Intn(6))[min(len(l), 18):]...)
		default:
			if len(s.Fields) == 0 {
				continue
			}
			f := &s.Fields[r.Intn(len(s.Fields))]
			f.Name = pick(r, f.Name, "a", "b", "")
			f.Type = api.Type{Base: r.Intn(8) - 2, Stars: r.Intn(9) - 2, Struct: pick(r, "", "0", "1", "x")}
		}
	}
	for i := range l {
		l[i].At = r.Intn(1000) - 10
		for k := range l[i].Fields {
			l[i].Fields[k].At = r.Intn(1000) - 10
		}
	}
	return l
}

// wrong is one thing that is wrong: where it comes in the chapter's order (the struct; its name, its fields' number, its fields; the field; name or type), and what is told.
type wrong struct {
	order [4]int
	at    int
	e     api.Errno
}

// allWrong is all that is wrong with structs, in no order.
func allWrong(l []api.Struct) []wrong {
	out := []wrong{}
	there := map[string]int{}
	for i := len(l) - 1; i >= 0; i-- {
		there[l[i].Name] = i + 1
		if i == 20 {
			out = append(out, wrong{[4]int{-1}, l[i].At, api.ErrFull})
		}
	}
	for i, s := range l {
		if there[s.Name] != i+1 {
			out = append(out, wrong{[4]int{i, 0}, s.At, api.ErrName})
		}
		if n := len(s.Fields); n < 1 || n > 12 {
			out = append(out, wrong{[4]int{i, 1}, s.At, api.ErrFull})
		}
		names := map[string]int{}
		for k, f := range s.Fields {
			names[f.Name]++
			x := f.Type
			if names[f.Name] > 1 || x.Base == api.Record && there[x.Struct] == 0 {
				out = append(out, wrong{[4]int{i, 2, k, 0}, f.At, api.ErrName})
			}
			number := x.Base == api.Char || x.Base == api.Int || x.Base == api.Long
			good := x.Stars <= 4 && (number && x.Struct == "" && x.Stars >= 0 || x.Base == api.Record && x.Stars >= 1)
			if !good {
				out = append(out, wrong{[4]int{i, 2, k, 1}, f.At, api.ErrType})
			}
		}
	}
	return out
}

// P4.1: of any structs Check tells the first of all that is wrong.
func TestWild(t *testing.T) {
	told := map[api.Errno]int{}
	for seed := range int64(4000) {
		l := wild(rand.New(rand.NewSource(seed)))
		want := wrong{}
		if all := allWrong(l); len(all) > 0 {
			want = slices.MinFunc(all, func(a, b wrong) int { return slices.Compare(a.order[:], b.order[:]) })
		}
		if at, e := lay.Check(l); at != want.at || e != want.e {
			t.Fatalf("P4.1: seed %d: Check: %d, %d, want %d, %d: %v", seed, at, e, want.at, want.e, l)
		}
		told[want.e]++
	}
	for _, e := range []api.Errno{api.OK, api.ErrFull, api.ErrName, api.ErrType} {
		if told[e] < 100 {
			t.Errorf("the samples have %d alone of error %d", told[e], e)
		}
	}
}

// line is what the address of a number or a pointer is a multiple of, and its size.
func line(x api.Type) int {
	switch {
	case x.Stars > 0, x.Base == api.Long:
		return 8
	case x.Base == api.Int:
		return 4
	}
	return 1
}

// walked is where fields stand, found byte by byte: each at the first place behind the one ahead that is a multiple of its line.
func walked(l []api.Field) lay.Lay {
	y := lay.Lay{Line: 1, Offs: []int{}}
	for _, f := range l {
		n := line(f.Type)
		for y.Size%n != 0 {
			y.Size++
		}
		y.Offs = append(y.Offs, y.Size)
		y.Size += n
		y.Line = max(y.Line, n)
	}
	for y.Size%y.Line != 0 {
		y.Size++
	}
	return y
}

// P4.1: Of, Size and Field of structs that are right say what is found byte by byte.
func TestModel(t *testing.T) {
	for seed := range int64(500) {
		l := rightStructs(rand.New(rand.NewSource(seed)))
		for _, s := range l {
			want := walked(s.Fields)
			if y, e := lay.Of(l, s.Name); !reflect.DeepEqual(y, want) || e != api.OK {
				t.Fatalf("P4.1: seed %d: Of(%s): %v, %d, want %v", seed, s.Name, y, e, want)
			}
			if n, e := lay.Size(l, record(s.Name)); n != want.Size || e != api.OK {
				t.Fatalf("P4.1: seed %d: Size(%s): %d, %d, want %d", seed, s.Name, n, e, want.Size)
			}
			for k, f := range s.Fields {
				if x, off, e := lay.Field(l, s.Name, f.Name); x != f.Type || off != want.Offs[k] || e != api.OK {
					t.Fatalf("P4.1: seed %d: Field(%s, %s): %v, %d, %d, want %v, %d", seed, s.Name, f.Name, x, off, e, f.Type, want.Offs[k])
				}
			}
		}
	}
}

// apart tells whether what has these types stands at multiples of its lines, within so many bytes, no byte being that of two.
func apart(types []api.Type, offs []int, size int) bool {
	taken := make([]bool, size)
	for k, off := range offs {
		n := line(types[k])
		if off%n != 0 {
			return false
		}
		for b := range n {
			at := off + b
			if at < 0 || at >= size || taken[at] {
				return false
			}
			taken[at] = true
		}
	}
	return len(types) == len(offs)
}

// P4.2: fields don't overlap, and stand at multiples of their lines, within the struct; its size is one of its line.
func TestFieldsApart(t *testing.T) {
	for seed := range int64(500) {
		l := rightStructs(rand.New(rand.NewSource(seed)))
		for _, s := range l {
			types := []api.Type{}
			for _, f := range s.Fields {
				types = append(types, f.Type)
			}
			y, _ := lay.Of(l, s.Name)
			if !apart(types, y.Offs, y.Size) || y.Line < 1 || y.Size%y.Line != 0 {
				t.Fatalf("P4.2: seed %d: struct %s: %v of %v", seed, s.Name, y, types)
			}
		}
	}
}

// P4.2: cells don't overlap, and stand at multiples of their lines, within as many sizes; they are so many, in order.
func TestCellsApart(t *testing.T) {
	for seed := range int64(500) {
		r := rand.New(rand.NewSource(seed))
		l := rightStructs(r)
		s := l[r.Intn(len(l))]
		x, each := record(s.Name), len(s.Fields)
		if r.Intn(4) == 0 {
			x, each = to(pick(r, char, in, long, x), pick(r, 1, 4)), 1
		}
		n := pick(r, 0, 1, 2, 3, r.Intn(50), 500)
		cells, e := lay.Cells(l, x, n)
		size, _ := lay.Size(l, x)
		types, offs := []api.Type{}, []int{}
		for _, c := range cells {
			types, offs = append(types, c.Type), append(offs, c.Off)
		}
		if e != api.OK || len(cells) != n*each || !slices.IsSorted(offs) || !apart(types, offs, n*size) {
			t.Fatalf("P4.2: seed %d: Cells(%v, %d): %d, %v", seed, x, n, e, cells)
		}
	}
}

// copied is the same structs in memory of its own, all of it, spare room too.
func copied(l []api.Struct) []api.Struct {
	out := slices.Clone(l[:cap(l)])
	for i := range out {
		f := out[i].Fields
		out[i].Fields = slices.Clone(f[:cap(f)])[:len(f)]
	}
	return out[:len(l)]
}

// roomy is structs of which all lists have spare room, with something in it.
func roomy(r *rand.Rand) []api.Struct {
	l := rightStructs(r)
	for i := range l {
		n := len(l[i].Fields)
		l[i].Fields = append(l[i].Fields, chars(3)...)[:n]
	}
	n := len(l)
	return append(l, many(2)...)[:n]
}

func untouched(a, b []api.Struct) bool {
	if !reflect.DeepEqual(a[:cap(a)], b[:cap(a)]) {
		return false
	}
	for i := range a {
		f, g := a[i].Fields, b[i].Fields
		if !reflect.DeepEqual(f[:cap(f)], g[:cap(f)]) {
			return false
		}
	}
	return true
}

// P4.3 (R6): structs that were handed in stay as they were, spare room included.
func TestHandedInStays(t *testing.T) {
	for seed := range int64(200) {
		r := rand.New(rand.NewSource(seed))
		l := roomy(r)
		was := copied(l)
		for range 20 {
			s := l[r.Intn(len(l))]
			askAll(l, record(s.Name), s.Fields[r.Intn(len(s.Fields))].Name, r.Intn(9))
			askAll(l, record("x"), "x", -1)
		}
		if !untouched(l, was) {
			t.Fatalf("P4.3: seed %d: what was handed in has changed", seed)
		}
	}
}

// askAll asks each call of the structs.
func askAll(l []api.Struct, x api.Type, field string, n int) {
	lay.Check(l)
	lay.Known(l, x)
	lay.Of(l, x.Struct)
	lay.Size(l, x)
	lay.Field(l, x.Struct, field)
	lay.Cells(l, x, n)
}

// P4.3 (R6): answers are new memory: what is stored in one, or in its spare room, is in no other, and not in what was handed in.
func TestAnswersAreNew(t *testing.T) {
	l := some()
	was := copied(l)
	a, _ := lay.Of(l, "z")
	first := slices.Clone(a.Offs)
	b, _ := lay.Of(l, "z")
	for i := range a.Offs[:cap(a.Offs)] {
		a.Offs[:cap(a.Offs)][i] = -1
	}
	c, _ := lay.Of(l, "z")
	if !slices.Equal(b.Offs, first) || !slices.Equal(c.Offs, first) {
		t.Errorf("P4.3: Of: %v and %v, want %v", b.Offs, c.Offs, first)
	}
	for _, x := range []api.Type{long, record("z")} {
		d, _ := lay.Cells(l, x, 3)
		cells := slices.Clone(d)
		f, _ := lay.Cells(l, x, 3)
		for i := range d[:cap(d)] {
			d[:cap(d)][i] = lay.Cell{Off: -1}
		}
		g, _ := lay.Cells(l, x, 3)
		if !slices.Equal(f, cells) || !slices.Equal(g, cells) {
			t.Errorf("P4.3: Cells(%v): %v and %v, want %v", x, f, g, cells)
		}
	}
	if !untouched(l, was) {
		t.Error("P4.3: answers share what was handed in")
	}
}

// P4.3 (R6): what was handed in isn't kept: answers that were given stay when it changes, and the next are of what it is then.
func TestNothingIsKept(t *testing.T) {
	l := some()
	y, _ := lay.Of(l, "s")
	cells, _ := lay.Cells(l, record("s"), 2)
	was, had := slices.Clone(y.Offs), slices.Clone(cells)
	l[0].Fields = slices.Clone(l[0].Fields)
	l[0].Fields[1].Type = char
	if !slices.Equal(y.Offs, was) || !slices.Equal(cells, had) {
		t.Errorf("P4.3: answers have changed: %v, %v", y, cells)
	}
	if y, e := lay.Of(l, "s"); y.Size != 8 || y.Line != 4 || !slices.Equal(y.Offs, []int{0, 1, 4}) || e != api.OK {
		t.Errorf("P4.3: Of what has changed: %v, %d", y, e)
	}
	if n, e := lay.Size(l, record("s")); n != 8 || e != api.OK {
		t.Errorf("P4.3: Size of what has changed: %d, %d", n, e)
	}
}

// P6: each call answers, and none panics, of any structs, right or not: also of structs within each other or themselves, and of ones without fields.
func TestNonePanics(t *testing.T) {
	odd := []api.Struct{
		{Name: "0", Fields: fields(record("0"), void, record("1"), char)},
		{Name: "1", Fields: fields(record("0"), record("x"), api.Type{Base: 9}, to(in, -1))},
		{Name: "x"},
		{Name: "0", Fields: chars(40)},
	}
	for seed := range int64(500) {
		r := rand.New(rand.NewSource(seed))
		l := wild(r)
		if seed%10 == 0 {
			l = odd
		}
		for range 20 {
			x := api.Type{Base: r.Intn(8) - 2, Stars: pick(r, 0, 0, 1, 4, 5, -1, 1<<62), Struct: pick(r, "", "0", "1", "x", "none")}
			askAll(l, x, pick(r, "a", "b", "", "none"), pick(r, -1<<63, -1, 0, 1, 3, 500, 501, 1<<62))
		}
	}
}

// P7 (R8): an answer doesn't hang on what was asked ahead of it.
func TestAsksAgain(t *testing.T) {
	ask := func(seed int64) []any {
		r := rand.New(rand.NewSource(seed))
		l := rightStructs(r)
		s := l[r.Intn(len(l))]
		y, e1 := lay.Of(l, s.Name)
		n, e2 := lay.Size(l, record(s.Name))
		x, off, e3 := lay.Field(l, s.Name, "a")
		cells, e4 := lay.Cells(l, record(s.Name), 3)
		at, e5 := lay.Check(wild(r))
		return []any{y, e1, n, e2, x, off, e3, cells, e4, at, e5}
	}
	first := [][]any{}
	for seed := range int64(100) {
		first = append(first, ask(seed))
	}
	for seed := int64(99); seed >= 0; seed-- {
		if again := ask(seed); !reflect.DeepEqual(again, first[seed]) {
			t.Fatalf("P7: R8: seed %d: %v, and then %v", seed, first[seed], again)
		}
	}
}
