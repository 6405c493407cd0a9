package summary

import (
	"reflect"
	"slices"
	"strconv"
	"strings"
	"testing"

	"weft/api"
	"weft/least"
	"weft/lower"
	"weft/open"
	"weft/parse"
	"weft/resolve"
	"weft/samples"
	"weft/system"
)

func read(t *testing.T, s string) api.Module {
	t.Helper()
	m, line, e := parse.Module(s)
	if e != api.OK {
		t.Fatalf("line %d: %v of %s", line, e, s)
	}
	return m
}

func con(op int, a, b string) api.Con { return api.Con{Op: op, A: a, B: b} }

func good() api.Summary {
	return api.Summary{
		Name: "m", Gives: []string{"f()", "g"}, Wants: []string{"h", "k()"}, Keeps: []string{"f$0", "g+0", "m@1", "x.y"},
		System: api.System{Objs: []api.Obj{{Name: "g", Kinds: "p"}, {Name: "h", Kinds: "p"}}, Fns: []api.Fn{{Name: "f()", Ret: "v"}, {Name: "k()", Ret: "v"}}},
	}
}

func TestCheck(t *testing.T) { // 24.1
	for i, c := range []struct {
		change func(s *api.Summary)
		e      api.Errno
	}{
		{func(s *api.Summary) {}, api.OK}, {func(s *api.Summary) { *s = api.Summary{Name: "a"} }, api.OK}, {func(s *api.Summary) { *s = api.Summary{} }, api.ErrName},
		{func(s *api.Summary) { s.Name = "1"; s.System.Objs[0].Name = "" }, api.ErrName}, {func(s *api.Summary) { s.Name = "a12345678901234567" }, api.ErrName}, {func(s *api.Summary) { s.System.Objs[0].Kinds = ""; s.Gives[0] = "z" }, api.ErrKind},
		{func(s *api.Summary) { s.Gives = []string{"g", "f()"} }, api.ErrOrder}, {func(s *api.Summary) { s.Gives = []string{"g", "g"} }, api.ErrOrder}, {func(s *api.Summary) { s.Gives = []string{"a", "g"}; s.Wants = nil }, api.ErrNone}, {func(s *api.Summary) { s.Gives[1] = "g+0" }, api.ErrNone}, {func(s *api.Summary) { s.Gives[0] = "f"; s.Wants = []string{"k()", "h"} }, api.ErrNone},
		{func(s *api.Summary) { s.Wants = []string{"k()", "h"} }, api.ErrOrder}, {func(s *api.Summary) { s.Wants = []string{"h", "z"}; s.Keeps[0] = "" }, api.ErrNone}, {func(s *api.Summary) { s.Wants = []string{"g", "h"} }, api.ErrTwice}, {func(s *api.Summary) { s.Wants = []string{"f()"}; s.Keeps[0] = "" }, api.ErrTwice},
		{func(s *api.Summary) { s.Keeps = make([]string, 6001) }, api.ErrFull}, {func(s *api.Summary) { s.Keeps = make([]string, 6000) }, api.ErrOrder}, {func(s *api.Summary) { s.Keeps[1] = "f$0" }, api.ErrOrder}, {func(s *api.Summary) { s.Keeps[1] = "g" }, api.ErrName}, {func(s *api.Summary) { s.Keeps = []string{"f()"} }, api.ErrName}, {func(s *api.Summary) { s.Keeps = nil }, api.OK},
	} {
		s := good()
		c.change(&s)
		if e := Check(s); e != c.e {
			t.Errorf("%d: %v, not %v", i, e, c.e)
		}
	}
}

func TestFaceSame(t *testing.T) { // 24.1
	if f := Face(good()); !slices.Equal(f.Fns, []string{"f()", "k()"}) || !slices.Equal(f.Objs, []string{"g", "h"}) {
		t.Errorf("%v", f)
	}
	if f := Face(api.Summary{}); len(f.Fns)+len(f.Objs) != 0 {
		t.Errorf("%v", f)
	}
	if !Same(good(), good()) {
		t.Error("not the same")
	}
	for i, change := range []func(s *api.Summary){
		func(s *api.Summary) { s.Name = "n" }, func(s *api.Summary) { s.Gives = s.Gives[:1] }, func(s *api.Summary) { s.Wants[0] = "i" }, func(s *api.Summary) { s.Keeps = nil }, func(s *api.Summary) { s.Keeps[0], s.Keeps[1] = s.Keeps[1], s.Keeps[0] }, func(s *api.Summary) { s.System.Fns[0].Ret = "p" },
	} {
		s := good()
		change(&s)
		if Same(s, good()) {
			t.Errorf("%d: the same", i)
		}
	}
}

func TestHides(t *testing.T) { // 24.2
	s := system.Canon(api.System{
		Objs: []api.Obj{{Name: "a", Kinds: "pip"}, {Name: "b", Kinds: "p"}, {Name: "c", Kinds: "pi"}, {Name: "d", Kinds: "i"}},
		Fns:  []api.Fn{{Name: "e()", Kinds: "p", Ret: "p"}, {Name: "f()", Kinds: "ip", Ret: "v"}, {Name: "g()", Ret: "v"}},
		Cons: []api.Con{con(api.CAddr, "f.x", "a+2"), con(api.CAddr, "f.y", "c+1"), con(api.CCopy, "f.y", "e$0"), con(api.CCopy, "m@1", "d+0"), con(api.CCopy, "q$7", "z+0"), con(api.CAddr, "f.y", "g()"), con(api.CCopy, "f$9", "f.x")},
	})
	// f.y is open, so c and g() are held; e() is out
	got, e := Hides(s, api.Face{Fns: []string{"e()"}, Objs: []string{"b"}})
	if e != api.OK || !slices.Equal(got, []string{"a+0", "a+2", "f$0", "f$1", "f$2", "f$9", "f.x", "f.y"}) {
		t.Errorf("%v, %v", e, got)
	}
	if l, e := Hides(s, api.Face{Fns: []string{"z()"}}); e != api.ErrNone || len(l) != 0 {
		t.Errorf("%v, %v", e, l)
	}
	if _, e := Hides(api.System{Cons: []api.Con{{}}}, api.Face{}); e != api.ErrKind {
		t.Errorf("%v", e)
	}
}

const text = `module m;
extern global eg ptr; extern fn ef(ptr) ptr;
global g [2]ptr; static global s ptr;
fn f(p ptr) ptr { var a ptr; var b ptr; var c ptr; a = copy p; b = copy a; c = copy b; return c; }
static fn h(p ptr) { var q ptr; q = addr s; store q p; call h(p); }
`

func TestOf(t *testing.T) { // 24.3
	m := read(t, text)
	whole, _ := lower.Module(m)
	got, e := Of(m, false)
	want := api.Summary{
		Name: "m", Gives: []string{"f()", "g"}, Wants: []string{"ef()", "eg"}, System: whole,
		Keeps: []string{"ef$0", "ef$1", "eg+0", "f$0", "f$1", "f.a", "f.b", "f.c", "g+0", "h$0", "h$1", "h.q", "s+0"},
	}
	if e != api.OK || !Same(got, want) {
		t.Errorf("%v\n%v\n%v", e, got, want)
	}
	got, e = Of(m, true)
	want.Keeps = []string{"ef$0", "ef$1", "eg+0", "f$0", "f$1", "g+0"}
	want.System = system.Canon(api.System{
		Objs: []api.Obj{{Name: "eg", Kinds: "p"}, {Name: "g", Kinds: "p", Marks: []api.Mark{{At: 0, Tag: "[]ptr"}}}},
		Fns:  []api.Fn{{Name: "ef()", Kinds: "p", Ret: "p"}, {Name: "f()", Kinds: "p", Ret: "p"}},
		Cons: []api.Con{con(api.CCopy, "f$0", "f$1")},
	})
	if e != api.OK || !Same(got, want) {
		t.Errorf("%v\n%v\n%v", e, got, want)
	}
}

func TestOfSites(t *testing.T) { // 24.3
	m := read(t, "module m; extern fn e() ptr; static fn k(p ptr) { } fn f(p ptr) { var q ptr; var r ptr; icall p(q); r = addr k; icall r(q); q = call e(); store q r; }")
	got, e := Of(m, true)
	if e != api.OK || !slices.Equal(got.Keeps, []string{"e$0", "f$0", "f$1", "f@1", "f@3", "k$0", "k$1"}) {
		t.Errorf("%v, %v", e, got)
	}
	if !slices.ContainsFunc(got.System.Cons, func(c api.Con) bool { return system.Compare(c, con(api.CAddr, "f@3", "k()")) == 0 }) {
		t.Errorf("%v", got.System)
	}
}

func TestOfErrors(t *testing.T) { // 24.3
	m := read(t, "module m; fn f() { p = null; }")
	for _, less := range []bool{true, false} {
		if s, e := Of(m, less); e != api.ErrNone || !reflect.DeepEqual(s, api.Summary{}) {
			t.Errorf("%v", e)
		}
	}
	big := "module m; struct S { " // 600 objects of 16 pointer cells
	for i := range 8 {
		big += "a" + strconv.Itoa(i) + " struct T; "
	}
	big += "} struct T { b0 ptr; b1 ptr; } "
	for i := range 20 {
		big += "fn f_" + strconv.Itoa(i) + "() ptr { var p ptr; " + strings.Repeat("p = new struct S; ", 30) + "return p; } "
	}
	for _, less := range []bool{true, false} {
		if s, e := Of(read(t, big), less); e != api.ErrFull || !reflect.DeepEqual(s, api.Summary{}) {
			t.Errorf("%v", e)
		}
	}
	if s, e := Of(read(t, strings.ReplaceAll(big, "fn ", "static fn ")), true); e != api.OK || len(s.Keeps) != 0 || len(s.System.Objs) != 0 {
		t.Errorf("%v", e)
	}
}

func TestFollows(t *testing.T) { // 24.4
	cons, less := 0, 0
	for seed := range 300 {
		m := samples.Module(seed)
		f := open.Face(m)
		whole, _ := lower.Module(m)
		mid, _ := resolve.System(whole, f)
		for _, l := range []bool{false, true} {
			s, e := Of(m, l)
			if e != api.OK || Check(s) != api.OK || !reflect.DeepEqual(Face(s), f) && (len(Face(s).Fns) != len(f.Fns) || len(Face(s).Objs) != len(f.Objs)) {
				t.Fatalf("%d: %v, %v", seed, e, Check(s))
			}
			if l && len(s.System.Cons) > len(mid.Cons) {
				t.Errorf("%d: %d constraints, resolve's are %d", seed, len(s.System.Cons), len(mid.Cons))
			}
			if l {
				cons, less = cons+len(whole.Cons), less+len(s.System.Cons)
			}
			for turn := range 3 {
				o := samples.Other(seed*3+turn, whole, f)
				a, e := system.Union([]api.System{whole, o})
				b, e2 := system.Union([]api.System{s.System, o})
				before, _ := least.Facts(a)
				after, _ := least.Facts(b)
				if e != api.OK || e2 != api.OK || !least.Same(least.Only(before, s.Keeps), least.Only(after, s.Keeps)) {
					t.Errorf("%d, %v: %v, %v\n%v\n%v", seed, l, e, e2, least.Only(before, s.Keeps), least.Only(after, s.Keeps))
				}
			}
		}
	}
	if less*4 > cons*3 {
		t.Errorf("%d constraints of %d", less, cons)
	}
}
