package scope

import (
	"reflect"
	"slices"
	"strings"
	"testing"

	"weft/api"
	"weft/parse"
)

func read(t *testing.T, s string) api.Module {
	t.Helper()
	m, line, e := parse.Module(s)
	if e != api.OK {
		t.Fatalf("line %d: %v of %s", line, e, s)
	}
	return m
}

const defs = `module m;
struct S { a ptr; b [3]int; }
extern global eg int; extern fn ef(int, ptr) ptr; extern fn en();
global g struct S; static global h ptr;
fn two(p ptr, i int) int { return i; }
`

func TestFind(t *testing.T) { // 13.1
	m := read(t, defs)
	for name, want := range map[string][2]int{"eg": {ExGlobal, 0}, "ef": {ExFunc, 1}, "en": {ExFunc, 2}, "g": {Global, 0}, "h": {Global, 1}, "two": {Func, 0}, "S": {Nothing, 0}, "": {Nothing, 0}, "m": {Nothing, 0}} {
		if sort, i := Find(m, name); sort != want[0] || i != want[1] {
			t.Errorf("Find(%q): %d, %d", name, sort, i)
		}
	}
	if Nothing != 0 || Global != 1 || Func != 2 || ExGlobal != 3 || ExFunc != 4 {
		t.Error("sorts")
	}
	m.Funcs = append(m.Funcs, api.Func{Name: "g"}, api.Func{Name: "two"})
	m.Externs = append(m.Externs, api.Extern{Name: "h", Fn: true})
	for name, want := range map[string][2]int{"g": {Global, 0}, "h": {ExFunc, 3}, "two": {Func, 0}} {
		if sort, i := Find(m, name); sort != want[0] || i != want[1] {
			t.Errorf("Find(%q): %d, %d", name, sort, i)
		}
	}
}

func TestVar(t *testing.T) { // 13.1
	f := read(t, "module m; fn f(p ptr, i int) { var q ptr; var p int; obj o int; }").Funcs[0]
	for name, want := range map[string]int{"p": api.Ptr, "i": api.Int, "q": api.Ptr, "o": api.None, "f": api.None, "": api.None} {
		if k := Var(f, name); k != want {
			t.Errorf("Var(%q): %d", name, k)
		}
	}
}

func TestEach(t *testing.T) { // 13.1
	f := read(t, "module m; fn f() { if a { b = 1; while c { d = 1; } } else { if e { } else { f = 1; } } g = 1; }").Funcs[0]
	f.Body[0].Then[1].Else = []api.Stmt{{Op: api.Free}} // a While has none there
	f.Body[1].Then = []api.Stmt{{Op: api.Free}}
	each := Each(f.Body)
	for range 2 {
		var got []string
		for n, s := range each {
			got = append(got, string(rune('0'+n))+s.A+s.Dst)
		}
		if s := strings.Join(got, " "); s != "1a 2b 3c 4d 5e 6f 7g" {
			t.Errorf("%s", s)
		}
	}
	for stop := range 7 {
		calls := 0
		each(func(n int, s api.Stmt) bool { calls++; return n <= stop })
		if calls != stop+1 {
			t.Errorf("%d calls, not %d", calls, stop+1)
		}
	}
}

func TestEachDeep(t *testing.T) { // 13.1, P1
	s := api.Stmt{Op: api.Return}
	for range 30 {
		s = api.Stmt{Op: api.While, Then: []api.Stmt{s}}
	}
	count := 0
	for n := range Each([]api.Stmt{s, {Op: api.Free}}) {
		if count++; n != count {
			t.Errorf("%d is the number %d", count, n)
		}
	}
	if count != 22 {
		t.Errorf("%d statements", count)
	}
	round := make([]api.Stmt, 1)
	round[0] = api.Stmt{Op: api.If, A: "x", Then: round}
	count = 0
	for range Each(round) {
		count++
	}
	if count != 21 {
		t.Errorf("%d statements", count)
	}
}

func TestEachCopies(t *testing.T) {
	l := []api.Stmt{{Op: api.If, Args: []string{"a"}, Type: api.Type{Of: []api.Type{{Kind: 1}}}, Then: []api.Stmt{{Op: api.Return, Args: []string{"b"}}}}}
	for _, s := range Each(l) {
		if s.Op == api.If {
			s.Args[0], s.Type.Of[0].Kind, s.Then[0].Op, s.Then[0].Args[0] = "x", 9, 9, "x"
		} else {
			s.Args[0] = "y"
		}
	}
	if l[0].Args[0] != "a" || l[0].Type.Of[0].Kind != 1 || l[0].Then[0].Op != api.Return || l[0].Then[0].Args[0] != "b" {
		t.Errorf("%v", l)
	}
}

func TestEachCopiesDeep(t *testing.T) { // 13.1: however deep a list lies, it is handed out anew
	deep, x := api.Stmt{Op: api.Return, Args: []string{"a"}}, api.Type{Kind: api.Int, Of: []api.Type{{Kind: api.Ptr}}}
	for range 40 {
		deep, x = api.Stmt{Op: api.Copy, Then: []api.Stmt{deep}}, api.Type{Of: []api.Type{x}}
	}
	deep.Type = x
	for _, s := range Each([]api.Stmt{deep}) {
		c := s.Type
		for range 40 {
			s, c, deep, x = s.Then[0], c.Of[0], deep.Then[0], x.Of[0]
		}
		if s.Op != api.Return || s.Args[0] != "a" || c.Kind != api.Int || c.Of[0].Kind != api.Ptr {
			t.Errorf("%v, %v", s, c)
		}
		s.Args[0], c.Of[0].Kind = "?", 9
	}
	if deep.Args[0] != "a" || x.Of[0].Kind != api.Ptr {
		t.Error("what is handed out is shared")
	}
}

func TestCheckDefs(t *testing.T) { // 13.2
	for _, c := range []struct {
		s, name string
		e       api.Errno
	}{
		{"", "", api.OK},
		{"struct S { c int; }", "S", api.ErrTwice}, {"struct T { a int; a ptr; }", "T", api.ErrTwice}, {"struct T { }", "T", api.ErrField}, {"struct T { a struct T; }", "T", api.ErrDeep}, {"struct T { a struct U; }", "T", api.ErrNone}, {"struct T { a struct U; a int; }", "T", api.ErrTwice},
		{"struct T { a [17]int; } struct T { a int; }", "T", api.ErrField}, {"struct T { a struct U; } struct U { a int; b int; c int; d int; e int; f int; g int; h int; i int; }", "T", api.ErrField},
		{"extern fn eg();", "eg", api.ErrTwice}, {"extern global x struct X;", "x", api.ErrNone}, {"extern fn x(int, int, int, int, int, int);", "", api.OK}, {"extern fn x(int, int, int, int, int, int, int);", "x", api.ErrArity},
		{"extern fn x(int, int, int, int, int, int, int); extern fn x();", "x", api.ErrArity}, {"struct T { } extern fn eg();", "T", api.ErrField},
		{"global eg int;", "eg", api.ErrTwice}, {"global g int;", "g", api.ErrTwice}, {"global x [0]int;", "x", api.ErrField}, {"extern global x int; global x [0]int;", "x", api.ErrTwice}, {"global x [16][16][5]int;", "x", api.ErrFull},
		{"fn g() { }", "g", api.ErrTwice}, {"fn ef() { }", "ef", api.ErrTwice}, {"fn two() { }", "two", api.ErrTwice}, {"global S int; fn T() { }", "", api.OK},
		{"fn x(a int, b int, c int, d int, e int, f int) { }", "", api.OK}, {"fn x(a int, b int, c int, d int, e int, f int, f int) { }", "x", api.ErrArity},
		{"fn x(a int) { var b int; var a ptr; }", "x", api.ErrTwice}, {"fn x() { var b int; obj b int; }", "x", api.ErrTwice}, {"fn x() { obj b int; obj b int; }", "x", api.ErrTwice}, {"fn x() { obj b struct X; }", "x", api.ErrNone}, {"fn x() { obj b struct X; obj b int; }", "x", api.ErrTwice},
		{"fn x(x int) { var g int; obj two int; }", "", api.OK},
		{"fn x() { y = 1; } fn two() { }", "two", api.ErrTwice}, // all heads are asked ahead of statements
		{"fn x() { y = 1; } fn z() { obj b struct X; }", "z", api.ErrNone},
		{"fn x() { " + vars(24) + "}", "", api.OK}, {"fn x() { " + vars(25) + "}", "x", api.ErrFull}, {"fn x(a int) { " + vars(24) + "}", "x", api.ErrFull}, {"fn x(v1 int) { " + vars(24) + "}", "x", api.ErrFull},
		{"fn x() { " + strings.ReplaceAll(vars(24), "var", "obj") + "}", "", api.OK}, {"fn x() { " + strings.ReplaceAll(vars(25), "var", "obj") + "}", "x", api.ErrFull},
	} {
		m := read(t, defs+c.s)
		if name, e := Check(m); name != c.name || e != c.e {
			t.Errorf("%s: %q, %v", c.s, name, e)
		}
	}
	m := read(t, defs)
	m.Globals[0].Name = "new"
	m.Structs = append(m.Structs, m.Structs[0])
	if name, e := Check(m); name != "" || e != api.ErrName {
		t.Errorf("%q, %v: what can not be written is asked first", name, e)
	}
}

func vars(n int) string {
	s := ""
	for i := range n {
		s += "var v" + string(rune('a'+i)) + " int; "
	}
	return s
}

func TestCheckStmts(t *testing.T) { // 13.2
	for s, e := range map[string]api.Errno{
		"p = addr o;": api.OK, "p = addr g;": api.OK, "p = addr eg;": api.OK, "p = addr ef;": api.OK, "p = addr two;": api.OK, "p = addr f;": api.OK, "p = addr p;": api.ErrNone, "p = addr x;": api.ErrNone, "i = addr x;": api.ErrType, "x = addr x;": api.ErrNone, "o = addr o;": api.ErrNone,
		"p = copy q;": api.OK, "i = copy j;": api.OK, "p = copy i;": api.ErrType, "i = copy x;": api.ErrNone, "x = copy p;": api.ErrNone, "g = copy p;": api.ErrNone,
		"p = load q;": api.OK, "i = load p;": api.OK, "i = load j;": api.ErrType, "x = load j;": api.ErrNone, "i = load x;": api.ErrNone,
		"store p q;": api.OK, "store p i;": api.OK, "store i p;": api.ErrType, "store p x;": api.ErrNone, "store i x;": api.ErrType,
		"p = member q S a;": api.OK, "p = member q S c;": api.ErrNone, "p = member q T a;": api.ErrNone, "p = member i S a;": api.ErrType, "i = member x S a;": api.ErrType, "p = member q T a; x = null;": api.ErrNone,
		"p = index q int i;": api.OK, "p = index q struct S i;": api.OK, "p = index q [0]int i;": api.ErrField, "p = index q struct T i;": api.ErrNone, "p = index q [0]int q;": api.ErrType, "p = index i int q;": api.ErrType, "i = index x int i;": api.ErrType,
		"p = new int;": api.OK, "p = new struct T;": api.ErrNone, "p = new [17]int;": api.ErrField, "i = new struct T;": api.ErrType,
		"free p;": api.OK, "free i;": api.ErrType, "free x;": api.ErrNone, "p = null;": api.OK, "i = null;": api.ErrType,
		"i = 5;": api.OK, "p = 5;": api.ErrType, "x = 5;": api.ErrNone, "i = input;": api.OK, "p = input;": api.ErrType,
		"i = plus i j;": api.OK, "p = plus i j;": api.ErrType, "i = less p j;": api.ErrType, "i = times i p;": api.ErrType, "i = minus p x;": api.ErrType, "i = minus x p;": api.ErrNone,
		"i = isnull p;": api.OK, "p = isnull p;": api.ErrType, "i = isnull i;": api.ErrType, "i = same p q;": api.OK, "i = same p j;": api.ErrType, "i = same j x;": api.ErrType, "p = same p q;": api.ErrType,
		"call en();": api.OK, "call ef(i, p);": api.OK, "p = call ef(i, p);": api.OK, "i = call two(p, i);": api.OK, "call x();": api.ErrNone, "call g();": api.ErrNone, "call eg();": api.ErrNone, "call p();": api.ErrNone, "call en(i);": api.ErrArity, "call two(p);": api.ErrArity, "call two(x);": api.ErrArity, "call two(i, p);": api.ErrType, "call two(p, x);": api.ErrNone,
		"i = call en();": api.ErrType, "p = call en();": api.ErrType, "x = call en();": api.ErrNone, "o = call en();": api.ErrNone, "i = call void();": api.ErrType, "x = call void();": api.ErrNone, "x = call void(i);": api.ErrArity, "x = call one(p);": api.ErrType, "x = call one(i);": api.ErrNone, "p = call one(i);": api.ErrType, "i = call ef(i, p);": api.ErrType, "x = call ef(i, p);": api.ErrNone, "x = call ef(p, p);": api.ErrType, "p = call f();": api.ErrArity, "p = call f(p);": api.OK,
		"icall p();": api.OK, "icall p(i, j, p, q, i, j);": api.OK, "icall p(i, j, p, q, i, j, i);": api.ErrArity, "icall i(i, j, p, q, i, j, i);": api.ErrType, "icall x();": api.ErrNone, "icall two();": api.ErrNone, "icall p(x);": api.ErrNone, "i = icall p();": api.OK, "p = icall p();": api.OK, "x = icall p();": api.ErrNone,
		"if i { }": api.OK, "while i { }": api.OK, "if p { }": api.ErrType, "while p { }": api.ErrType, "if x { y = 1; }": api.ErrNone, "if i { p = 1; }": api.ErrType, "if i { } else { p = 1; }": api.ErrType, "while i { while j { p = 1; } }": api.ErrType,
		"return p;": api.OK, "return i;": api.ErrType, "return x;": api.ErrNone, "return;": api.ErrNone,
	} {
		m := read(t, defs+"fn f(p ptr) ptr { var q ptr; var i int; var j int; obj o struct S; "+s+" } fn void() { } fn one(i int) { }")
		name, got := Check(m)
		if got != e || name != map[bool]string{true: "", false: "f"}[e == api.OK] {
			t.Errorf("%s: %q, %v, not %v", s, name, got, e)
		}
	}
	for s, e := range map[string]api.Errno{"return;": api.OK, "return i;": api.ErrType, "return x;": api.ErrType, "p = null;": api.ErrNone, "if i { i = 1; } else { x = 1; p = 1; }": api.ErrNone} {
		if _, got := Check(read(t, "module m; fn f() { var i int; "+s+" }")); got != e {
			t.Errorf("%s: %v, not %v", s, got, e)
		}
	}
	if name, e := Check(read(t, "module m; fn f() { } fn g() { p = null; } fn h() { return p; }")); name != "g" || e != api.ErrNone {
		t.Errorf("%q, %v", name, e)
	}
}

func TestStaysSo(t *testing.T) { // 13.3
	m := read(t, defs+"fn f(p ptr) ptr { var i int; if i { p = addr g; while i { p = call f(p); } } else { i = call two(p, i); } return p; }")
	if _, e := Check(m); e != api.OK {
		t.Fatal(e)
	}
	before := read(t, defs+"fn f(p ptr) ptr { var i int; if i { p = addr g; while i { p = call f(p); } } else { i = call two(p, i); } return p; }")
	slices.Reverse(m.Funcs)
	if _, e := Check(m); e != api.OK {
		t.Errorf("%v", e)
	}
	f := &m.Funcs[0]
	for len(f.Body) > 0 {
		if len(f.Body[0].Then) > 0 {
			f.Body[0].Then = f.Body[0].Then[1:]
		} else {
			f.Body = f.Body[1:]
		}
		if _, e := Check(m); e != api.OK {
			t.Errorf("%v", e)
		}
	}
	if _, e := Check(before); e != api.OK || !reflect.DeepEqual(before, read(t, defs+"fn f(p ptr) ptr { var i int; if i { p = addr g; while i { p = call f(p); } } else { i = call two(p, i); } return p; }")) {
		t.Error("a module that was asked is another one")
	}
}
