package clone

import (
	"reflect"
	"slices"
	"strings"
	"testing"

	"weft/api"
	"weft/least"
	"weft/lower"
	"weft/parse"
	"weft/samples"
	"weft/system"
)

func read(t *testing.T, s string) api.Module {
	t.Helper()
	m, line, e := parse.Module(s)
	if e != api.OK {
		t.Fatalf("line %d: %v of %s", line, e, s)
	}
	return m
}

func con(op int, a, b string) api.Con { return api.Con{Op: op, A: a, B: b} }

func TestCalls(t *testing.T) { // 31.1
	m := read(t, "module m; extern fn e(); fn a() { call b(); call e(); if i { call a(); } else { while i { call b(); } } } fn b() { var p ptr; p = addr a; icall p(); call a(); }")
	if l, e := Calls(m); e != api.ErrNone || len(l) != 0 {
		t.Errorf("%v, %v", l, e)
	}
	m.Funcs[0].Vars = []api.Var{{Name: "i", Kind: api.Int}}
	l, e := Calls(m)
	if e != api.OK || !slices.Equal(l, []Call{{"a", 1, "b"}, {"a", 4, "a"}, {"a", 6, "b"}, {"b", 3, "a"}}) {
		t.Errorf("%v, %v", l, e)
	}
	if l, e := Calls(read(t, "module m;")); e != api.OK || len(l) != 0 {
		t.Errorf("%v, %v", l, e)
	}
}

const text = `module m; global g ptr; extern fn e(ptr) ptr;
fn id(p ptr) ptr { var q ptr; obj o ptr; q = new int; q = addr o; q = addr id; q = addr g; q = icall p(q); p = call e(p); return p; }
fn f(a ptr) { var b ptr; var i int; b = call id(a); i = 3; if i { call id(b); } }
`

func TestSystem(t *testing.T) { // 31.2
	m := read(t, text)
	got, e := System(m)
	copied := func(fn string) []api.Con {
		return []api.Con{con(api.CAddr, fn+".q", fn+"#1+0"), con(api.CAddr, fn+".q", fn+"%o+0"), con(api.CAddr, fn+".q", "id()"), con(api.CAddr, fn+".q", "g+0"), {Op: api.CCall, A: fn + "@5", B: fn + "$1", Tag: "p>p", Args: []string{fn + ".q", fn + ".q"}}, con(api.CCopy, "e$1", fn+"$1"), con(api.CCopy, fn+"$1", "e$0"), con(api.CCopy, fn+"$0", fn+"$1")}
	}
	want := system.Canon(api.System{
		Objs: []api.Obj{{Name: "g", Kinds: "p"}, {Name: "id#1", Kinds: "i"}, {Name: "id%o", Kinds: "p"}, {Name: "id~1#1", Kinds: "i"}, {Name: "id~1%o", Kinds: "p"}, {Name: "id~2#1", Kinds: "i"}, {Name: "id~2%o", Kinds: "p"}},
		Fns:  []api.Fn{{Name: "e()", Kinds: "p", Ret: "p"}, {Name: "f()", Kinds: "p", Ret: "v"}, {Name: "id()", Kinds: "p", Ret: "p"}},
		Cons: slices.Concat(copied("id"), copied("id~1"), copied("id~2"), []api.Con{con(api.CCopy, "id~1$1", "f$1"), con(api.CCopy, "f.b", "id~1$0"), con(api.CCopy, "id~2$1", "f.b")}),
	})
	if e != api.OK || !system.Same(got, want) {
		t.Errorf("%v\n%v\n%v", e, got, want)
	}
	if !reflect.DeepEqual(m, read(t, text)) {
		t.Error("the module is another one now")
	}
}

func TestRound(t *testing.T) { // 31.2: what a copy calls is the function itself, or, where it calls itself, the copy
	got, e := System(read(t, "module m; fn a(p ptr) ptr { p = call a(p); p = call b(p); return p; } fn b(q ptr) ptr { return q; }"))
	want := system.Canon(api.System{
		Fns: []api.Fn{{Name: "a()", Kinds: "p", Ret: "p"}, {Name: "b()", Kinds: "p", Ret: "p"}},
		Cons: []api.Con{
			con(api.CCopy, "a$0", "a$1"), con(api.CCopy, "b$0", "b$1"),
			con(api.CCopy, "a~1$1", "a$1"), con(api.CCopy, "a$1", "a~1$0"), con(api.CCopy, "b~2$1", "a$1"), con(api.CCopy, "a$1", "b~2$0"),
			con(api.CCopy, "a~1$1", "a~1$1"), con(api.CCopy, "a~1$1", "a~1$0"), con(api.CCopy, "b$1", "a~1$1"), con(api.CCopy, "a~1$1", "b$0"), con(api.CCopy, "a~1$0", "a~1$1"),
			con(api.CCopy, "b~2$0", "b~2$1"),
		},
	})
	if e != api.OK || !system.Same(got, want) {
		t.Errorf("%v\n%v\n%v", e, got, want)
	}
}

func TestErrors(t *testing.T) { // 31.2
	if s, e := System(read(t, "module m; fn f() { p = null; }")); e != api.ErrNone || !reflect.DeepEqual(s, api.System{}) {
		t.Errorf("%v", e)
	}
	m := "module m; fn f() { "
	for i := range 20 {
		m += "obj o" + string(rune('a'+i)) + " int; "
	}
	m += "} fn g() { "
	if s, e := System(read(t, m+strings.Repeat("call f(); ", 29)+"}")); e != api.OK || len(s.Objs) != 600 {
		t.Errorf("%v", e)
	}
	if s, e := System(read(t, m+strings.Repeat("call f(); ", 30)+"}")); e != api.ErrFull || !reflect.DeepEqual(s, api.System{}) {
		t.Errorf("%v", e)
	}
}

func TestProject(t *testing.T) { // 31.3
	l := []api.Fact{{Node: "f~2.p", Locs: []string{"f~2%x+0", "g+0", "1unk", "f~1()"}}, {Node: "a.b", Locs: []string{"g+0", "g+0"}}, {Node: "f~1.p", Locs: []string{"f~1%x+0", "h+1"}}, {Node: "", Locs: []string{"g+0"}}, {Node: "f.p", Locs: []string{"a+0"}}, {Node: "f~0.p", Locs: []string{"g+0"}}}
	want := []api.Fact{{Node: "a.b", Locs: []string{"g+0"}}, {Node: "f.p", Locs: []string{"a+0", "f%x+0", "f()", "g+0", "h+1"}}}
	if got := Project(l); !least.Same(got, want) {
		t.Errorf("%v", got)
	}
	if got := Project(nil); len(got) != 0 {
		t.Errorf("%v", got)
	}
}

func TestExample(t *testing.T) {
	m := read(t, "module m; fn id(p ptr) ptr { return p; } fn f() { var p ptr; var q ptr; obj a int; obj b int; p = addr a; p = call id(p); q = addr b; q = call id(q); }")
	s, _ := System(m)
	with, _ := least.Facts(s)
	w, _ := lower.Module(m)
	without, _ := least.Facts(w)
	if a, b := least.Of(with, "f.p"), least.Of(with, "f.q"); !slices.Equal(a, []string{"f%a+0"}) || !slices.Equal(b, []string{"f%b+0"}) {
		t.Errorf("%v, %v", a, b)
	}
	if a, b := least.Of(without, "f.p"), least.Of(without, "f.q"); !slices.Equal(a, []string{"f%a+0", "f%b+0"}) || !slices.Equal(b, a) {
		t.Errorf("%v, %v", a, b)
	}
}

func TestFollows(t *testing.T) { // 31.4, W6
	fewer := 0
	for seed := range 300 {
		for _, m := range []api.Module{samples.Program(seed), samples.Module(seed)} {
			s, e := System(m)
			if e != api.OK || system.Check(s) != api.OK {
				t.Fatalf("%d: %v", seed, e)
			}
			with, _ := least.Facts(s)
			w, _ := lower.Module(m)
			without, _ := least.Facts(w)
			if !least.Within(Project(with), without) {
				t.Errorf("%d: with copies there is more", seed)
			}
			if !least.Within(without, Project(with)) {
				fewer++
			}
		}
	}
	if fewer < 30 {
		t.Errorf("%d with fewer: nothing was asked", fewer)
	}
}
