package split

import (
	"reflect"
	"slices"
	"strings"
	"testing"

	"weft/api"
	"weft/least"
	"weft/link"
	"weft/lower"
	"weft/parse"
	"weft/samples"
	"weft/scope"
	"weft/show"
	"weft/solve"
	"weft/summary"
)

func read(t *testing.T, s string) api.Module {
	t.Helper()
	m, line, e := parse.Module(s)
	if e != api.OK {
		t.Fatalf("line %d: %v of %s", line, e, s)
	}
	return m
}

func text(t *testing.T, m api.Module) string {
	t.Helper()
	s, e := show.Module(m)
	if e != api.OK {
		t.Fatal(e)
	}
	return s
}

const program = `module m;
struct S { a ptr; }
global g ptr; static global s struct S; global h [2]int; static global u int; global w ptr;
fn a(p ptr, i int) ptr { obj u int; p = addr u; p = addr g; p = call b(p); return p; }
fn b(p ptr) ptr { p = addr s; if i { p = addr h; } call c(); return p; }
static fn c() { var p ptr; p = addr c; }
fn d(i int) { var p ptr; p = addr d; p = call a(p, i); while i { call c(); } p = addr w; p = addr g; }
`

func prog(t *testing.T) api.Module {
	return read(t, strings.Replace(program, "b(p ptr) ptr {", "b(p ptr) ptr { var i int;", 1))
}

func TestGroups(t *testing.T) { // 30.1
	l, e := Groups(prog(t))
	if e != api.OK || !reflect.DeepEqual(l, [][]string{{"g"}, {"s", "b", "c", "d"}, {"h"}, {"u"}, {"w"}, {"a"}}) {
		t.Errorf("%v, %v", l, e)
	}
	l, e = Groups(read(t, "module m; static global s int; global x int; fn g() { } fn f() { var p ptr; p = addr s; call g(); }"))
	if e != api.OK || !reflect.DeepEqual(l, [][]string{{"s", "f"}, {"x"}, {"g"}}) {
		t.Errorf("%v, %v", l, e)
	}
	if l, e := Groups(read(t, "module m; extern fn e(); fn f() { p = null; }")); e != api.ErrNone || len(l) != 0 {
		t.Errorf("%v, %v", l, e)
	}
	if l, e := Groups(read(t, "module m; extern fn e();")); e != api.ErrState || len(l) != 0 {
		t.Errorf("%v, %v", l, e)
	}
	if l, e := Groups(read(t, "module m;")); e != api.OK || len(l) != 0 {
		t.Errorf("%v, %v", l, e)
	}
}

func TestModules(t *testing.T) { // 30.2
	m, before := prog(t), prog(t)
	// the groups: g 1, s b c d 0, h -1 (2^64 - 1 divided by 3 leaves 0), u 2, w 5, a 1
	l, e := Modules(m, []int{1, 0, -1, 2, 5, 1}, 3)
	if e != api.OK || len(l) != 3 || !reflect.DeepEqual(m, before) {
		t.Fatal(e)
	}
	for i, want := range []string{
		`module part0; struct S { a ptr; } extern global g ptr; extern global w ptr; extern fn a(ptr, int) ptr; static global s struct S; global h [2]int;
fn b(p ptr) ptr { var i int; p = addr s; if i { p = addr h; } call c(); return p; } static fn c() { var p ptr; p = addr c; }
fn d(i int) { var p ptr; p = addr d; p = call a(p, i); while i { call c(); } p = addr w; p = addr g; }`,
		`module part1; struct S { a ptr; } extern fn b(ptr) ptr; global g ptr; fn a(p ptr, i int) ptr { obj u int; p = addr u; p = addr g; p = call b(p); return p; }`,
		`module part2; struct S { a ptr; } static global u int; global w ptr;`,
	} {
		if got := text(t, l[i]); got != text(t, read(t, want)) {
			t.Errorf("%d: %s", i, got)
		}
	}
	l[0].Structs[0].Fields[0].Name, l[0].Funcs[0].Body[0].Dst, l[0].Funcs[0].Params[0].Name, l[0].Funcs[0].Body[1].Then[0].A, l[2].Structs[0].Name = "?", "?", "?", "?", "?"
	if !reflect.DeepEqual(m, before) || l[1].Structs[0].Fields[0].Name != "a" {
		t.Error("what is handed out is the program's own")
	}
	l, e = Modules(m, nil, 2)
	if e != api.OK || len(l) != 2 || len(l[0].Funcs) != 4 || len(l[0].Externs)+len(l[1].Funcs)+len(l[1].Globals) != 0 || len(l[1].Structs) != 1 || l[1].Name != "part1" {
		t.Errorf("%v, %v", e, l)
	}
}

func TestModulesErrors(t *testing.T) { // 30.2
	wide := "module m; " // 25 functions that main names
	main := "fn main() { var p ptr; "
	for i := range 15 {
		wide += "global g_" + string(rune('a'+i)) + " int; fn f_" + string(rune('a'+i)) + "() { } "
		main += "p = addr g_" + string(rune('a'+i)) + "; call f_" + string(rune('a'+i)) + "(); "
	}
	for i, c := range []struct {
		s     string
		parts []int
		n     int
		e     api.Errno
	}{
		{"module m; fn f() { p = null; }", nil, 0, api.ErrNone}, {"module m; extern fn f();", nil, 0, api.ErrState}, {"module m;", nil, 0, api.ErrRange}, {"module m;", nil, -1, api.ErrRange}, {"module m;", nil, 9, api.ErrRange}, {"module m;", []int{1, 2, 3}, 8, api.OK},
		{wide + main + "}", []int{30: 1}, 2, api.ErrFull}, {wide + main + "}", nil, 2, api.OK},
	} {
		l, e := Modules(read(t, c.s), c.parts, c.n)
		if e != c.e || e != api.OK && len(l) != 0 || e == api.OK && len(l) != c.n {
			t.Errorf("%d: %v, not %v", i, e, c.e)
		}
	}
}

func TestJoin(t *testing.T) { // 30.3
	a := read(t, "module a; struct S { a ptr; } struct T { b [2]int; } extern global g struct S; extern fn f(ptr) int; static global x int; fn h() { }")
	b := read(t, "module b; struct T { b [2]int; } struct S { a ptr; } struct U { c int; } extern fn h(); global g struct S; fn f(p ptr) int { var i int; call h(); return i; }")
	got, e := Join([]api.Module{a, b}, "all")
	want := "module all; struct S { a ptr; } struct T { b [2]int; } struct U { c int; } static global x int; global g struct S; fn h() { } fn f(p ptr) int { var i int; call h(); return i; }"
	if e != api.OK || text(t, got) != text(t, read(t, want)) {
		t.Errorf("%v, %v", e, got)
	}
	got.Structs[0].Fields[0].Name, got.Funcs[1].Body[0].A = "?", "?"
	if a.Structs[0].Fields[0].Name != "a" || b.Funcs[0].Body[0].A != "h" {
		t.Error("what is handed out is the modules' own")
	}
	if m, e := Join(nil, "x"); e != api.OK || !reflect.DeepEqual(m, api.Module{Name: "x"}) {
		t.Errorf("%v, %v", e, m)
	}
	big := "module b; "
	for i := range 24 {
		big += "global g_" + string(rune('a'+i)) + " int; "
	}
	for i, c := range []struct {
		l    string
		name string
		e    api.Errno
	}{
		{"module a; fn f() { p = null; } | module b; fn f() { i = 1; } struct E { }", "1", api.ErrField}, {"module a; fn f() { p = null; } | module b; fn f() { }", "1", api.ErrNone},
		{"module a; struct S { a ptr; } | module b; struct S { a int; }", "x", api.ErrTwice}, {"module a; struct S { a ptr; } | module b; struct S { b ptr; }", "x", api.ErrTwice}, {"module a; struct S { a ptr; } | module b; struct S { a ptr; b int; }", "x", api.ErrTwice}, {"module a; struct S { a [2]ptr; } | module b; struct S { a [3]ptr; }", "x", api.ErrTwice},
		{"module a; global g int; | module b; global g int;", "x", api.ErrTwice}, {"module a; static global g int; | module b; static fn g() { }", "x", api.ErrTwice}, {"module a; extern fn z(); fn g() { } | module b; fn g() { }", "x", api.ErrTwice},
		{"module a; extern fn z();", "x", api.ErrNone}, {"module a; extern fn z(); | module b; static fn z() { }", "x", api.ErrNone}, {"module a; extern fn z(); | module b; static global z int;", "x", api.ErrNone}, {"module a; extern fn z(); | module b; extern fn z();", "x", api.ErrNone},
		{"module a; extern fn z(); | module b; global z int;", "x", api.ErrType}, {"module a; extern global z int; | module b; fn z() { }", "x", api.ErrType}, {"module a; extern global z int; | module b; global z ptr;", "x", api.ErrType}, {"module a; extern fn z(int); | module b; fn z(p ptr) { }", "x", api.ErrType}, {"module a; extern fn z(); | module b; fn z(p ptr) { }", "x", api.ErrType}, {"module a; extern fn z() int; | module b; fn z() { }", "x", api.ErrType},
		{"module a; extern fn y(); extern fn z(); | module b; global z int;", "x", api.ErrNone}, {"module a; extern fn z(); extern fn y(); | module b; global z int;", "x", api.ErrType}, {"module a; global q int; | module b; extern fn z(); | module c; extern fn q(); fn z() { }", "x", api.ErrType},
		{big + " | module c; global z int;", "x", api.ErrFull}, {"module a; | module b;", "1", api.ErrName}, {"module a; | module a;", "x", api.OK},
	} {
		var l []api.Module
		for _, s := range strings.Split(c.l, "|") {
			l = append(l, read(t, s))
		}
		if i == 0 {
			l[0], l[1] = l[1], l[0]
		}
		m, e := Join(l, c.name)
		if e != c.e || e != api.OK && !reflect.DeepEqual(m, api.Module{}) {
			t.Errorf("%d: %v, not %v", i, e, c.e)
		}
	}
}

// sorted is a module with its definitions in an order that does not hang on how they stood.
func sorted(m api.Module, name string) api.Module {
	m.Name = name
	slices.SortFunc(m.Globals, func(a, b api.Global) int { return strings.Compare(a.Name, b.Name) })
	slices.SortFunc(m.Funcs, func(a, b api.Func) int { return strings.Compare(a.Name, b.Name) })
	return m
}

// whole tells whether all of what a part has, but for what it wants, is of a program as it stands there.
func whole(m, part api.Module) bool {
	for _, g := range part.Globals {
		sort, i := scope.Find(m, g.Name)
		if sort != scope.Global || !reflect.DeepEqual(g, m.Globals[i]) {
			return false
		}
	}
	for _, f := range part.Funcs {
		sort, i := scope.Find(m, f.Name)
		if sort != scope.Func || !reflect.DeepEqual(f, m.Funcs[i]) {
			return false
		}
	}
	for _, x := range part.Externs {
		sort, i := scope.Find(m, x.Name)
		if sort == scope.Global && !reflect.DeepEqual(x, api.Extern{Name: x.Name, Type: m.Globals[i].Type}) {
			return false
		}
	}
	return reflect.DeepEqual(part.Structs, m.Structs)
}

// spoil changes all that a module hands out.
func spoil(m api.Module) {
	var types func(l []api.Type)
	types = func(l []api.Type) {
		for i := range l {
			if l[i].Kind != -9 { // one of a list that has itself within may be changed already
				l[i].Kind = -9
				types(l[i].Of)
			}
		}
	}
	var stmts func(l []api.Stmt)
	stmts = func(l []api.Stmt) {
		for i := range l {
			if x := &l[i]; x.Op != -9 {
				x.Op = -9
				types(x.Type.Of)
				clear(x.Args)
				stmts(x.Then)
				stmts(x.Else)
			}
		}
	}
	for _, s := range m.Structs {
		for _, f := range s.Fields {
			types(f.Type.Of)
		}
		clear(s.Fields)
	}
	for _, x := range m.Externs {
		types(x.Type.Of)
		clear(x.Params)
	}
	for _, g := range m.Globals {
		types(g.Type.Of)
	}
	for _, f := range m.Funcs {
		for _, o := range f.Objs {
			types(o.Type.Of)
		}
		clear(f.Objs)
		clear(f.Params)
		clear(f.Vars)
		stmts(f.Body)
	}
}

func TestAsTheyWere(t *testing.T) { // 30.2, 30.3, 30.4: what a kind, or an Op, does not need is handed out, too, and anew
	for seed := range 200 {
		m := samples.Cluttered(seed, samples.Program)
		src := samples.From(seed)
		l, e := Modules(m, src.Numbers(12), 1+src.Next(4))
		if e != api.OK {
			t.Fatalf("%d: %v", seed, e)
		}
		for _, x := range l {
			if !whole(m, x) {
				t.Errorf("%d: %s is not as it was: %v", seed, x.Name, x)
			}
		}
		joined, e := Join(l, "m")
		if e != api.OK {
			t.Fatalf("%d: %v", seed, e)
		}
		for _, x := range l {
			spoil(x)
		}
		want := samples.Cluttered(seed, samples.Program)
		if !reflect.DeepEqual(m, want) || !reflect.DeepEqual(sorted(joined, "m"), sorted(samples.Cluttered(seed, samples.Program), "m")) {
			t.Errorf("%d: joined it is not the program, or it is shared", seed)
		}
		spoil(joined)
		one, e := Join([]api.Module{m}, "m")
		m.Name = "m"
		if e != api.OK || !reflect.DeepEqual(one, m) {
			t.Errorf("%d: as one: %v", seed, e)
		}
		spoil(one)
		if want.Name = "m"; !reflect.DeepEqual(m, want) {
			t.Errorf("%d: what is handed out is the program's own", seed)
		}
	}
}

func TestFollows(t *testing.T) { // 30.4, W1
	asked := 0
	for seed := range 200 {
		m := samples.Program(seed)
		src := samples.From(seed)
		n := 1 + src.Next(4)
		l, e := Modules(m, src.Numbers(12), n)
		if e != api.OK {
			t.Fatalf("%d: %v", seed, e)
		}
		for _, x := range l {
			if name, e := scope.Check(x); e != api.OK {
				t.Errorf("%d: %q, %v", seed, name, e)
			}
		}
		joined, e := Join(l, "m")
		if e != api.OK || text(t, sorted(joined, "m")) != text(t, sorted(samples.Program(seed), "m")) {
			t.Errorf("%d: %v", seed, e)
		}
		s, _ := lower.Module(m)
		want, _ := least.Facts(s)
		for _, less := range []bool{false, true} {
			var sums []api.Summary
			for _, x := range l {
				sum, e := summary.Of(x, less)
				if e != api.OK {
					t.Fatalf("%d: %v", seed, e)
				}
				sums = append(sums, sum)
			}
			whole, _ := summary.Of(m, less)
			all, e := link.System(sums)
			got, _, e2 := link.Facts(sums, solve.Enough(all), src.Numbers(30))
			if e != api.OK || e2 != api.OK || !least.Same(got, least.Only(want, link.Keeps(sums))) {
				t.Errorf("%d, %v: %v, %v", seed, less, e, e2)
			}
			both := slices.DeleteFunc(link.Keeps(sums), func(n string) bool { return !slices.Contains(whole.Keeps, n) })
			alone, _, _ := link.Facts([]api.Summary{whole}, solve.Enough(whole.System), nil)
			if !least.Same(least.Only(got, both), least.Only(alone, both)) {
				t.Errorf("%d, %v: the program alone comes to something else", seed, less)
			}
			asked += len(least.Only(got, both))
		}
	}
	if asked < 3000 {
		t.Errorf("%d facts: nothing was asked", asked)
	}
}
