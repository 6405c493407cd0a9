package shape

import (
	"reflect"
	"testing"

	"weft/api"
)

var (
	integer = api.Type{Kind: api.Int}
	pointer = api.Type{Kind: api.Ptr}
)

func array(n int, of api.Type) api.Type {
	return api.Type{Kind: api.Array, N: n, Of: []api.Type{of}}
}

func record(name string) api.Type { return api.Type{Kind: api.Record, Name: name} }

func fields(types ...api.Type) []api.Field {
	var l []api.Field
	for i, t := range types {
		l = append(l, api.Field{Name: string(rune('a' + i)), Type: t})
	}
	return l
}

// structs are S of the example, T with S within, and some that are wrong.
func structs() []api.Struct {
	return []api.Struct{
		{Name: "S", Fields: fields(pointer, array(3, integer), pointer)},
		{Name: "T", Fields: fields(integer, array(2, record("Q")), record("Q"))},
		{Name: "Q", Fields: fields(pointer, integer)},
		{Name: "U", Fields: fields(integer, record("S"))},
		{Name: "E"},
		{Name: "Nine", Fields: fields(integer, integer, integer, integer, integer, integer, integer, integer, integer)},
		{Name: "Eight", Fields: fields(integer, integer, integer, integer, integer, integer, integer, integer)},
		{Name: "R", Fields: fields(record("R"))},
		{Name: "Two", Fields: fields(api.Type{Kind: 9}, record("none"))},
		{Name: "S", Fields: fields(integer)},
		{Name: "E64", Fields: fields(record("Eight"), record("Eight"), record("Eight"), record("Eight"), record("Eight"), record("Eight"), record("Eight"), record("Eight"))},
		{Name: "E65", Fields: fields(record("E64"), integer)},
		{Name: "In", Fields: fields(array(2, record("none")), api.Type{Kind: 9})},
	}
}

func TestCheck(t *testing.T) { // 10.1
	for i, c := range []struct {
		t api.Type
		e api.Errno
	}{
		{integer, api.OK}, {pointer, api.OK}, {api.Type{}, api.ErrKind}, {api.Type{Kind: 5}, api.ErrKind}, {api.Type{Kind: -1}, api.ErrKind},
		{api.Type{Kind: api.Int, N: -7, Of: []api.Type{{}, {}}, Name: "-"}, api.OK},
		{array(1, integer), api.OK}, {array(16, integer), api.OK}, {array(0, integer), api.ErrField}, {array(17, integer), api.ErrField},
		{api.Type{Kind: api.Array, N: 1}, api.ErrField}, {api.Type{Kind: api.Array, N: 1, Of: []api.Type{integer, integer}}, api.ErrField},
		{array(1, array(1, array(1, integer))), api.OK}, {array(1, array(1, array(1, array(1, integer)))), api.ErrDeep}, {array(1, array(1, array(1, array(1, api.Type{})))), api.ErrDeep},
		{array(1, array(1, array(1, array(0, integer)))), api.ErrField}, {array(0, api.Type{}), api.ErrField}, {array(1, api.Type{}), api.ErrKind},
		{record("S"), api.OK}, {record("T"), api.OK}, {array(2, record("T")), api.ErrDeep}, {record("none"), api.ErrNone}, {record("E"), api.ErrField}, {record("Nine"), api.ErrField}, {record("Eight"), api.OK},
		{record("R"), api.ErrDeep}, {record("Two"), api.ErrKind}, {record("In"), api.ErrNone},
		{record("E64"), api.OK}, {record("E65"), api.ErrFull}, {array(16, record("E64")), api.OK}, {array(16, array(16, array(4, integer))), api.OK}, {array(16, array(16, array(5, integer))), api.ErrFull},
	} {
		if e := Check(structs(), c.t); e != c.e {
			t.Errorf("%d: Check(%s): %v, not %v", i, Text(c.t), e, c.e)
		}
	}
}

func TestRoundType(t *testing.T) { // 10.1, P1
	of := make([]api.Type, 1)
	of[0] = api.Type{Kind: api.Array, N: 2, Of: of}
	if e := Check(nil, of[0]); e != api.ErrDeep {
		t.Errorf("%v", e)
	}
	if s := Text(of[0]); s != "[2][2][2][2]?" {
		t.Errorf("%q", s)
	}
}

func TestText(t *testing.T) { // 10.1
	for want, x := range map[string]api.Type{"int": integer, "ptr": pointer, "struct S": record("S"), "[3]int": array(3, integer), "[16][2]struct S": array(16, array(2, record("S"))), "?": {}, "[0]?": array(0, api.Type{Kind: 7}), "[-1]ptr": array(-1, pointer), "[1][1][1][1]?": array(1, array(1, array(1, array(1, integer)))), "[1][1][1]int": array(1, array(1, array(1, integer)))} {
		if s := Text(x); s != want {
			t.Errorf("%q, not %q", s, want)
		}
		if s := Tag(x); s != "[]"+want {
			t.Errorf("%q, not []%s", s, want)
		}
	}
	if s := Text(api.Type{Kind: api.Array, N: 3, Of: []api.Type{integer, integer}}); s != "?" {
		t.Errorf("%q", s)
	}
}

func marks(l ...any) []api.Mark {
	var m []api.Mark
	for i := 0; i < len(l); i += 2 {
		m = append(m, api.Mark{At: l[i].(int), Tag: l[i+1].(string)})
	}
	return m
}

func TestCells(t *testing.T) { // 10.2
	for _, c := range []struct {
		t     api.Type
		kinds string
		marks []api.Mark
		size  int
	}{
		{integer, "i", nil, 1}, {pointer, "p", nil, 1},
		{record("S"), "pip", marks(0, "S", 1, "[]int"), 5},
		{array(2, array(3, pointer)), "p", marks(0, "[][3]ptr", 0, "[]ptr"), 6},
		{record("T"), "ipipi", marks(0, "T", 1, "[]struct Q", 1, "Q", 3, "Q"), 7},
		{record("U"), "ipip", marks(0, "U", 1, "S", 2, "[]int"), 6},
	} {
		kinds, marks, e := Cells(structs(), c.t)
		if kinds != c.kinds || len(marks)+len(c.marks) > 0 && !reflect.DeepEqual(marks, c.marks) || e != api.OK {
			t.Errorf("Cells(%s): %q, %v, %v", Text(c.t), kinds, marks, e)
		}
		if n, e := Size(structs(), c.t); n != c.size || e != api.OK {
			t.Errorf("Size(%s): %d, %v", Text(c.t), n, e)
		}
	}
	if kinds, marks, e := Cells(structs(), record("none")); kinds != "" || len(marks) != 0 || e != api.ErrNone {
		t.Errorf("%q, %v, %v", kinds, marks, e)
	}
	if n, e := Size(structs(), record("E65")); n != 0 || e != api.ErrFull {
		t.Errorf("%d, %v", n, e)
	}
}

func TestCell(t *testing.T) { // 10.2
	for at, want := range []int{0, 1, 1, 1, 2} {
		if n, e := Cell(structs(), record("S"), at); n != want || e != api.OK {
			t.Errorf("the place %d: %d, %v", at, n, e)
		}
	}
	for at, want := range []int{0, 1, 2, 1, 2, 3, 4} {
		if n, e := Cell(structs(), record("T"), at); n != want || e != api.OK {
			t.Errorf("the place %d: %d, %v", at, n, e)
		}
	}
	for _, at := range []int{-1, 5, 1 << 62} {
		if n, e := Cell(structs(), record("S"), at); n != 0 || e != api.ErrRange {
			t.Errorf("the place %d: %d, %v", at, n, e)
		}
	}
	if n, e := Cell(structs(), api.Type{}, 0); n != 0 || e != api.ErrKind {
		t.Errorf("%d, %v", n, e)
	}
}

func TestField(t *testing.T) { // 10.3
	l := structs()
	for _, c := range []struct {
		name, field   string
		cells, places int
		t             api.Type
		e             api.Errno
	}{
		{"S", "a", 0, 0, pointer, api.OK}, {"S", "b", 1, 1, array(3, integer), api.OK}, {"S", "c", 2, 4, pointer, api.OK}, {"S", "d", 0, 0, api.Type{}, api.ErrNone},
		{"T", "c", 3, 5, record("Q"), api.OK}, {"T", "b", 1, 1, array(2, record("Q")), api.OK}, {"none", "a", 0, 0, api.Type{}, api.ErrNone}, {"E", "a", 0, 0, api.Type{}, api.ErrField}, {"R", "a", 0, 0, api.Type{}, api.ErrDeep},
	} {
		if cells, places, x, e := Field(l, c.name, c.field); cells != c.cells || places != c.places || !reflect.DeepEqual(x, c.t) || e != c.e {
			t.Errorf("Field(%s, %s): %d, %d, %v, %v", c.name, c.field, cells, places, x, e)
		}
	}
	_, _, x, _ := Field(l, "S", "b")
	x.Of[0].Kind = 9
	if l[0].Fields[1].Type.Of[0].Kind != api.Int {
		t.Error("the type is the struct's own")
	}
	twice := []api.Struct{{Name: "D", Fields: []api.Field{{Name: "a", Type: integer}, {Name: "b", Type: pointer}, {Name: "b", Type: integer}}}}
	if cells, _, x, _ := Field(twice, "D", "b"); cells != 1 || x.Kind != api.Ptr {
		t.Errorf("%d, %v", cells, x)
	}
}

func TestBegins(t *testing.T) { // 10.3
	for _, c := range []struct {
		t    api.Type
		tag  string
		want []int
	}{
		{record("S"), "S", []int{0}}, {record("S"), "[]int", []int{1, 2, 3}}, {record("S"), "[]ptr", nil},
		{record("T"), "Q", []int{1, 3, 5}}, {record("T"), "[]struct Q", []int{1, 3}}, {record("U"), "[]int", []int{2, 3, 4}}, {record("T"), "T", []int{0}},
		{array(2, array(2, integer)), "[][2]int", []int{0, 2}}, {array(2, array(2, integer)), "[]int", []int{0, 1, 2, 3}}, {record("E65"), "E65", nil}, {integer, "", nil},
	} {
		want := map[int]bool{}
		for _, at := range c.want {
			want[at] = true
		}
		for at := -2; at < 20; at++ {
			if Begins(structs(), c.t, at, c.tag) != want[at] {
				t.Errorf("Begins(%s, %d, %q) is not %v", Text(c.t), at, c.tag, want[at])
			}
		}
	}
}

func TestWithin(t *testing.T) { // 10.3
	for _, c := range []struct {
		t, elem api.Type
		at      int
		n, of   int
		e       api.Errno
	}{
		{record("S"), integer, 3, 2, 3, api.OK}, {record("S"), integer, 0, 0, 0, api.ErrNone}, {record("S"), integer, 4, 0, 0, api.ErrNone}, {record("S"), pointer, 1, 0, 0, api.ErrNone},
		{record("S"), integer, 5, 0, 0, api.ErrRange}, {record("S"), integer, -1, 0, 0, api.ErrRange}, {record("none"), integer, -1, 0, 0, api.ErrNone}, {api.Type{}, integer, -1, 0, 0, api.ErrKind},
		{record("T"), record("Q"), 3, 1, 2, api.OK}, {record("T"), record("Q"), 4, 0, 0, api.ErrNone}, {record("U"), integer, 4, 2, 3, api.OK}, {record("T"), record("Q"), 5, 0, 0, api.ErrNone},
		{array(2, array(3, integer)), array(3, integer), 3, 1, 2, api.OK}, {array(2, array(3, integer)), integer, 3, 0, 3, api.OK}, {array(2, array(3, integer)), array(2, integer), 3, 0, 0, api.ErrNone},
	} {
		if n, of, e := Within(structs(), c.t, c.at, c.elem); n != c.n || of != c.of || e != c.e {
			t.Errorf("Within(%s, %d, %s): %d, %d, %v", Text(c.t), c.at, Text(c.elem), n, of, e)
		}
	}
}

func TestFollows(t *testing.T) { // 10.4
	l := structs()
	for _, x := range []api.Type{integer, record("S"), record("T"), record("U"), array(3, record("S")), array(16, record("E64")), array(2, array(3, array(4, pointer)))} {
		kinds, marks, _ := Cells(l, x)
		size, _ := Size(l, x)
		seen := map[int]bool{}
		top := -1
		for at := range size {
			n, e := Cell(l, x, at)
			if e != api.OK || n > top+1 {
				t.Errorf("%s: the place %d: %d, %v", Text(x), at, n, e)
			}
			top = max(top, n)
			seen[n] = true
			for _, m := range marks { // what is marked at a cell begins at its first place
				if m.At == n && n == top && !seen[-1-n] && !Begins(l, x, at, m.Tag) {
					t.Errorf("%s: %q does not begin at %d", Text(x), m.Tag, at)
				}
			}
			seen[-1-n] = true
			if x.Kind == api.Array {
				elem, _ := Size(l, x.Of[0])
				if m, _ := Cell(l, x, at%elem); m != n {
					t.Errorf("%s: %d and %d have other cells", Text(x), at, at%elem)
				}
			}
		}
		if top+1 != len(kinds) {
			t.Errorf("%s: %d cells, %d kinds", Text(x), top+1, len(kinds))
		}
	}
}
