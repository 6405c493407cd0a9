package copies

import (
	"reflect"
	"testing"

	"weft/api"
)

// typ is a type with something in all its fields, new each time.
func typ() api.Type {
	return api.Type{Kind: api.Int, Name: "X", N: 7, Of: []api.Type{{Kind: 9, Of: []api.Type{{Name: "Y"}, {Of: []api.Type{}}}}, {N: -1}}}
}

// stmt is a statement with something in all its fields, new each time.
func stmt() api.Stmt {
	return api.Stmt{Op: api.Copy, Dst: "d", A: "a", B: "b", N: 5, Type: typ(), Args: []string{"x", "y"},
		Then: []api.Stmt{{Op: api.Return, Type: typ(), Args: []string{"z"}, Else: []api.Stmt{{Type: typ()}, {Args: []string{}}}}}, Else: []api.Stmt{}}
}

func fn() api.Func {
	return api.Func{Name: "f", Static: true, Params: []api.Var{{Name: "p", Kind: 3}}, Ret: -4, Vars: []api.Var{{Name: "v"}}, Objs: []api.Field{{Name: "o", Type: typ()}}, Body: []api.Stmt{stmt(), {}}}
}

// spoil changes all that a type, and all within it, has.
func spoil(l []api.Type) {
	for i := range l {
		spoil(l[i].Of)
		l[i] = api.Type{Kind: -1}
	}
}

func spoilStmts(l []api.Stmt) {
	for i := range l {
		spoil(l[i].Type.Of)
		for j := range l[i].Args {
			l[i].Args[j] = "?"
		}
		spoilStmts(l[i].Then)
		spoilStmts(l[i].Else)
		l[i] = api.Stmt{Op: -1}
	}
}

func spoilFields(l []api.Field) {
	for i := range l {
		spoil(l[i].Type.Of)
		l[i] = api.Field{Name: "?"}
	}
}

func TestCopies(t *testing.T) {
	x, y := typ(), stmt()
	a, b := Type(x), Stmt(y)
	if !reflect.DeepEqual(a, typ()) || !reflect.DeepEqual(b, stmt()) {
		t.Errorf("%v, %v", a, b)
	}
	s := api.Struct{Name: "S", Fields: []api.Field{{Name: "a", Type: typ()}, {Name: "b"}}}
	c := Struct(s)
	if !reflect.DeepEqual(c, api.Struct{Name: "S", Fields: []api.Field{{Name: "a", Type: typ()}, {Name: "b"}}}) {
		t.Errorf("%v", c)
	}
	g := api.Global{Name: "g", Static: true, Type: typ()}
	d := Global(g)
	if !reflect.DeepEqual(d, api.Global{Name: "g", Static: true, Type: typ()}) {
		t.Errorf("%v", d)
	}
	f := fn()
	e := Func(f)
	if !reflect.DeepEqual(e, fn()) {
		t.Errorf("%v", e)
	}
	spoil([]api.Type{a, d.Type})
	spoilStmts([]api.Stmt{b})
	spoilStmts(e.Body)
	spoilFields(c.Fields)
	spoilFields(e.Objs)
	e.Params[0], e.Vars[0] = api.Var{}, api.Var{Kind: 1}
	if !reflect.DeepEqual(x, typ()) || !reflect.DeepEqual(y, stmt()) || !reflect.DeepEqual(s.Fields[0].Type, typ()) || !reflect.DeepEqual(g.Type, typ()) || !reflect.DeepEqual(f, fn()) {
		t.Error("a copy shares what it was made of")
	}
}

// TestNothingShared: lists that stand in several places of a part are several lists in its copy.
func TestNothingShared(t *testing.T) {
	args, of := []string{"a"}, []api.Type{{Kind: 1}}
	within := []api.Stmt{{Op: 9}}
	one := api.Stmt{Args: args, Type: api.Type{Of: of}, Then: within, Else: within}
	f := Func(api.Func{Body: []api.Stmt{one, one}, Objs: []api.Field{{Type: api.Type{Of: of}}}})
	first := &f.Body[0]
	first.Args[0], first.Type.Of[0].Kind, first.Then[0].Op, f.Objs[0].Type.Of[0].Kind = "?", 7, 7, 8
	if !reflect.DeepEqual(f.Body[1], one) || first.Else[0].Op != 9 || first.Type.Of[0].Kind != 7 || within[0].Op != 9 {
		t.Errorf("%v", f)
	}
}

// TestWithoutEnd: lists that have themselves within are copied as such.
func TestWithoutEnd(t *testing.T) {
	of := make([]api.Type, 2)
	of[0], of[1] = api.Type{Kind: 1, Of: of}, api.Type{Kind: 2, Of: of[:1]}
	l := make([]api.Stmt, 3)
	for i := range l {
		l[i] = api.Stmt{Op: i, Then: l, Else: l[i:], Type: api.Type{Of: of}}
	}
	s, x := Stmt(l[1]), Type(of[0])
	if !reflect.DeepEqual(s, l[1]) || !reflect.DeepEqual(x, of[0]) {
		t.Error("a copy is not the same")
	}
	s.Then[0].Op, s.Then[1].Then[0].Op, s.Then[0].Type.Of[0].Kind, x.Of[0].Kind, x.Of[1].Of[0].Kind = 7, 7, 7, 7, 7
	if l[0].Op != 0 || of[0].Kind != 1 {
		t.Error("a copy shares what it was made of")
	}
}

// TestOverAndOver: lists that stand in one another so often that no memory has room for all of them.
func TestOverAndOver(t *testing.T) {
	of := []api.Type{{Kind: 1}}
	l := []api.Stmt{{Op: 1}}
	for range 60 {
		of = []api.Type{{Of: of}, {Of: of}}
		l = []api.Stmt{{Then: l, Else: l}}
	}
	f := Func(api.Func{Objs: []api.Field{{Type: api.Type{Of: of}}}, Body: l})
	x, s := f.Objs[0].Type, f.Body
	for range 60 {
		x, s = x.Of[1], s[0].Else
	}
	if x.Of[0].Kind != 1 || s[0].Op != 1 {
		t.Error("something was left out")
	}
	x.Of[0].Kind, s[0].Op = 7, 7
	for range 60 {
		of, l = of[0].Of, l[0].Then
	}
	if of[0].Kind != 1 || l[0].Op != 1 {
		t.Error("a copy shares what it was made of")
	}
}

func TestDeep(t *testing.T) {
	const levels = 1 << 16
	x, s := api.Type{Kind: 1}, api.Stmt{Op: 1}
	for range levels {
		x, s = api.Type{Of: []api.Type{x}}, api.Stmt{Then: []api.Stmt{s}}
	}
	x, s = Type(x), Stmt(s)
	for range levels {
		x, s = x.Of[0], s.Then[0]
	}
	if x.Kind != 1 || s.Op != 1 {
		t.Error("something was left out")
	}
}
