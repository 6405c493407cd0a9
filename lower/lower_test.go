package lower

import (
	"reflect"
	"strings"
	"testing"

	"weft/api"
	"weft/parse"
	"weft/system"
)

func read(t *testing.T, s string) api.Module {
	t.Helper()
	m, line, e := parse.Module(s)
	if e != api.OK {
		t.Fatalf("line %d: %v of %s", line, e, s)
	}
	return m
}

func con(op int, a, b string) api.Con { return api.Con{Op: op, A: a, B: b} }

const defs = `module m;
struct S { a int; b ptr; c [3]ptr; }
extern global eg ptr; extern fn ef(ptr, int) ptr; extern fn en(int);
global g struct S; static global h int;
fn two(p ptr, i int, q ptr) ptr { return q; }
static fn none() { }
`

func TestStmts(t *testing.T) { // 16.1
	for s, want := range map[string][]api.Con{
		"p = addr o;": {con(api.CAddr, "f$2", "f%o+0")}, "q = addr g;": {con(api.CAddr, "f.q", "g+0")}, "q = addr eg;": {con(api.CAddr, "f.q", "eg+0")}, "q = addr h;": {con(api.CAddr, "f.q", "f%h+0")}, "q = addr two;": {con(api.CAddr, "f.q", "two()")}, "q = addr en;": {con(api.CAddr, "f.q", "en()")}, "q = addr f;": {con(api.CAddr, "f.q", "f()")},
		"q = copy p;": {con(api.CCopy, "f.q", "f$2")}, "q = copy q;": {con(api.CCopy, "f.q", "f.q")}, "i = copy j;": nil,
		"q = load p;": {con(api.CLoad, "f.q", "f$2")}, "i = load p;": nil, "store p q;": {con(api.CStore, "f$2", "f.q")}, "store p i;": nil,
		"q = member p S c;": {{Op: api.CField, A: "f.q", B: "f$2", K: 2, Tag: "S"}}, "q = index p struct S i;": {{Op: api.CField, A: "f.q", B: "f$2", Tag: "[]struct S"}}, "q = index p [2]int i;": {{Op: api.CField, A: "f.q", B: "f$2", Tag: "[][2]int"}},
		"p = call two(q, i, p);": {con(api.CCopy, "f$2", "two$0"), con(api.CCopy, "two$1", "f.q"), con(api.CCopy, "two$3", "f$2")}, "call two(q, i, q);": {con(api.CCopy, "two$1", "f.q"), con(api.CCopy, "two$3", "f.q")}, "q = call ef(p, i);": {con(api.CCopy, "ef$1", "f$2"), con(api.CCopy, "f.q", "ef$0")}, "call en(i);": nil, "i = call f(i, p);": {con(api.CCopy, "f$2", "f$2")},
		"q = icall p(i, q);":                    {{Op: api.CCall, A: "f@1", B: "f$2", Tag: "ip>p", Args: []string{"f.q", "", "f.q"}}},
		"i = icall q();":                        {{Op: api.CCall, A: "f@1", B: "f.q", Tag: ">i", Args: []string{""}}},
		"if i { icall q(p); }":                  {{Op: api.CCall, A: "f@2", B: "f.q", Tag: "p>", Args: []string{"", "f$2"}}},
		"if i { free p; } else { q = addr o; }": {con(api.CAddr, "f.q", "f%o+0")},
		"while i { q = null; } q = copy p;":     {con(api.CCopy, "f.q", "f$2")},
		"q = copy p; q = copy p; p = addr o;":   {con(api.CAddr, "f$2", "f%o+0"), con(api.CCopy, "f.q", "f$2")},
		"i = isnull p; i = same p q; i = input; i = plus i j; i = 3; return i;": nil,
	} {
		m := read(t, defs+"fn f(i int, p ptr) int { var q ptr; var j int; obj o struct S; obj h int; "+s+" }")
		got, e := Func(m, "f")
		want := api.System{Objs: []api.Obj{{Name: "f%h", Kinds: "i"}, {Name: "f%o", Kinds: "ipp", Marks: []api.Mark{{At: 0, Tag: "S"}, {At: 2, Tag: "[]ptr"}}}}, Cons: want}
		if e != api.OK || !system.Same(got, want) {
			t.Errorf("%s: %v\n%v\n%v", s, e, got, want)
		}
	}
}

func TestNewReturn(t *testing.T) { // 16.1
	m := read(t, defs+"fn f(p ptr) ptr { if i { p = new ptr; } p = new [2]struct S; return p; }")
	m.Funcs[2].Vars = []api.Var{{Name: "i", Kind: api.Int}}
	got, e := Func(m, "f")
	want := api.System{
		Objs: []api.Obj{{Name: "f#2", Kinds: "p"}, {Name: "f#3", Kinds: "ipp", Marks: []api.Mark{{At: 0, Tag: "[]struct S"}, {At: 0, Tag: "S"}, {At: 2, Tag: "[]ptr"}}}},
		Cons: []api.Con{con(api.CAddr, "f$1", "f#2+0"), con(api.CAddr, "f$1", "f#3+0"), con(api.CCopy, "f$0", "f$1")},
	}
	if e != api.OK || !system.Same(got, want) {
		t.Errorf("%v\n%v\n%v", e, got, want)
	}
	got, _ = Func(read(t, "module m; fn f(p ptr) ptr { p = load p; return p; }"), "f")
	if !system.Same(got, api.System{Cons: []api.Con{con(api.CCopy, "f$0", "f$1"), con(api.CLoad, "f$1", "f$1")}}) {
		t.Errorf("%v", got)
	}
}

func TestFuncErrors(t *testing.T) { // 16.1
	m := read(t, defs)
	for _, name := range []string{"ef", "g", "eg", "x", ""} {
		if s, e := Func(m, name); e != api.ErrNone || !reflect.DeepEqual(s, api.System{}) {
			t.Errorf("%q: %v", name, e)
		}
	}
	m = read(t, defs+"fn f() { p = null; }")
	if _, e := Func(m, "two"); e != api.ErrNone {
		t.Errorf("%v", e)
	}
	m = read(t, defs+"fn two() { }")
	if _, e := Func(m, "x"); e != api.ErrTwice {
		t.Errorf("%v", e)
	}
	if s, e := Module(m); e != api.ErrTwice || !reflect.DeepEqual(s, api.System{}) {
		t.Errorf("%v", e)
	}
}

func TestModule(t *testing.T) { // 16.2
	got, e := Module(read(t, defs))
	want := api.System{
		Objs: []api.Obj{{Name: "eg", Kinds: "p"}, {Name: "g", Kinds: "ipp", Marks: []api.Mark{{At: 0, Tag: "S"}, {At: 2, Tag: "[]ptr"}}}, {Name: "h", Kinds: "i"}},
		Fns:  []api.Fn{{Name: "ef()", Kinds: "pi", Ret: "p"}, {Name: "en()", Kinds: "i", Ret: "v"}, {Name: "none()", Ret: "v"}, {Name: "two()", Kinds: "pip", Ret: "p"}},
		Cons: []api.Con{con(api.CCopy, "two$0", "two$3")},
	}
	if e != api.OK || !system.Same(got, want) {
		t.Errorf("%v\n%v\n%v", e, got, want)
	}
	if got, e := Module(read(t, "module m; fn f() int { var i int; return i; }")); e != api.OK || !system.Same(got, api.System{Fns: []api.Fn{{Name: "f()", Ret: "i"}}}) {
		t.Errorf("%v, %v", got, e)
	}
}

func TestFull(t *testing.T) { // 16.2
	m := api.Module{Name: "m"}
	for i := range 24 {
		f := api.Func{Name: "f_" + string(rune('a'+i)), Vars: []api.Var{{Name: "p", Kind: api.Ptr}}}
		for range 26 {
			f.Body = append(f.Body, api.Stmt{Op: api.New, Dst: "p", Type: api.Type{Kind: api.Int}})
		}
		m.Funcs = append(m.Funcs, f)
	}
	if s, e := Module(m); e != api.ErrFull || !reflect.DeepEqual(s, api.System{}) {
		t.Errorf("%v: 624 objects", e)
	}
	for i := range m.Funcs {
		m.Funcs[i].Body = m.Funcs[i].Body[:25]
	}
	if s, e := Module(m); e != api.OK || len(s.Objs) != 600 {
		t.Errorf("%v: 600 objects", e)
	}
}

func TestFollows(t *testing.T) { // 16.3
	a := "fn a(p ptr) ptr { var q ptr; q = call b(p); q = addr b; q = icall q(p); q = addr g; return q; }"
	b := "fn b(p ptr) ptr { var q ptr; obj o ptr; q = addr o; store q p; q = call a(q); return q; }"
	g := "global g ptr; "
	whole, _ := Module(read(t, "module m; "+g+a+b))
	one, _ := Module(read(t, "module x; extern fn b(ptr) ptr; "+g+a))
	two, _ := Module(read(t, "module y; extern global g ptr; extern fn a(ptr) ptr; "+b))
	both, e := system.Union([]api.System{two, one})
	if e != api.OK || !system.Same(both, whole) {
		t.Errorf("%v\n%v\n%v", e, both, whole)
	}
	alone, _ := Func(read(t, "module x; extern fn b(ptr) ptr; "+g+a), "a")
	within, _ := Func(read(t, "module m; "+g+strings.Replace(b, "store q p;", "", 1)+a), "a")
	if !system.Same(alone, within) || system.Check(whole) != api.OK {
		t.Errorf("%v\n%v", alone, within)
	}
}
