package resolve

import (
	"reflect"
	"slices"
	"strconv"
	"testing"

	"weft/api"
	"weft/least"
	"weft/names"
	"weft/open"
	"weft/samples"
	"weft/system"
)

func con(op int, a, b string) api.Con { return api.Con{Op: op, A: a, B: b} }

func base(cons ...api.Con) api.System {
	return system.Canon(api.System{
		Objs: []api.Obj{{Name: "s", Kinds: "pip", Marks: []api.Mark{{At: 0, Tag: "S"}, {At: 1, Tag: "[]int"}}}, {Name: "x", Kinds: "p"}},
		Fns:  []api.Fn{{Name: "f()", Kinds: "pip", Ret: "p"}, {Name: "g()", Ret: "v"}, {Name: "h~2()", Kinds: "p", Ret: "p"}},
		Cons: cons,
	})
}

func same(a, b []api.Con) bool {
	return slices.EqualFunc(a, b, func(a, b api.Con) bool { return system.Compare(a, b) == 0 })
}

func TestCon(t *testing.T) { // 20.1
	all := []string{"x+0", "s+1", "f()", "s+0", "h~2()", "g()", "z+0", "k()", "s+9", "junk", "", "x+0"}
	call := func(tag string, args ...string) api.Con {
		return api.Con{Op: api.CCall, A: "m@1", B: "m.p", Tag: tag, Args: args}
	}
	for i, c := range []struct {
		c    api.Con
		has  []string
		want []api.Con
	}{
		{con(api.CAddr, "m.p", "x+0"), nil, []api.Con{con(api.CAddr, "m.p", "x+0")}}, {con(api.CCopy, "m.p", "m.q"), all, []api.Con{con(api.CCopy, "m.p", "m.q")}}, {con(api.CCopy, "m.p", "m.p"), all, nil},
		{con(api.CLoad, "m.q", "m.p"), all, []api.Con{con(api.CCopy, "m.q", "x+0"), con(api.CCopy, "m.q", "s+0"), con(api.CCopy, "m.q", "x+0")}}, {con(api.CLoad, "x+0", "m.p"), all, []api.Con{con(api.CCopy, "x+0", "s+0")}}, {con(api.CLoad, "m.q", "m.p"), nil, nil},
		{con(api.CStore, "m.p", "m.q"), all, []api.Con{con(api.CCopy, "x+0", "m.q"), con(api.CCopy, "s+0", "m.q"), con(api.CCopy, "x+0", "m.q")}}, {con(api.CStore, "m.p", "s+0"), []string{"s+0", "s+2"}, []api.Con{con(api.CCopy, "s+2", "s+0")}},
		{api.Con{Op: api.CField, A: "m.q", B: "m.p", K: 2, Tag: "S"}, all, []api.Con{con(api.CAddr, "m.q", "s+2")}}, {api.Con{Op: api.CField, A: "m.q", B: "m.p", K: 3, Tag: "S"}, all, nil}, {api.Con{Op: api.CField, A: "m.q", B: "m.p", K: 0, Tag: "[]int"}, all, []api.Con{con(api.CAddr, "m.q", "s+1")}}, {api.Con{Op: api.CField, A: "m.q", B: "m.p", K: 0, Tag: "T"}, all, nil},
		{call("pip>p", "m.r", "m.a", "", "m.b"), all, []api.Con{con(api.CAddr, "m@1", "f()"), con(api.CCopy, "m.r", "f$0"), con(api.CCopy, "f$1", "m.a"), con(api.CCopy, "f$3", "m.b")}},
		{call("p>", "", "m.a"), all, []api.Con{con(api.CAddr, "m@1", "h~2()"), con(api.CCopy, "h~2$1", "m.a")}}, {call("p>p", "h~2$0", "h~2$1"), all, []api.Con{con(api.CAddr, "m@1", "h~2()")}}, {call("p>i", "", "m.a"), all, nil}, {call(">", ""), all, []api.Con{con(api.CAddr, "m@1", "g()")}}, {call(">p", "m.r"), all, nil},
		{con(7, "m.q", "m.p"), all, nil}, {con(api.CLoad, "x", "m.p"), all, nil}, {api.Con{Op: api.CField, A: "m.q", B: "m.p"}, all, nil},
	} {
		if got := Con(base(), c.c, c.has); !same(got, c.want) {
			t.Errorf("%d: %v, not %v", i, got, c.want)
		}
	}
	wrong := base()
	wrong.Objs[0].Kinds = ""
	if l := Con(wrong, con(api.CAddr, "m.p", "x+0"), nil); len(l) != 0 {
		t.Errorf("%v", l)
	}
}

func TestSystem(t *testing.T) { // 20.2
	s := base(con(api.CAddr, "m.p", "x+0"), con(api.CLoad, "m.q", "m.p"), con(api.CStore, "m.p", "m.q"), con(api.CLoad, "m.r", "f$1"), con(api.CCopy, "m.a", "m.a"), con(api.CLoad, "m.b", "m.c"), con(api.CStore, "m.d", "m.p"), con(api.CAddr, "m.d", "x+0"))
	got, e := System(s, api.Face{Fns: []string{"f()"}})
	want := base(con(api.CAddr, "m.p", "x+0"), con(api.CCopy, "m.q", "x+0"), con(api.CCopy, "x+0", "m.q"), con(api.CLoad, "m.r", "f$1"), con(api.CCopy, "m.a", "m.a"), con(api.CCopy, "x+0", "m.p"), con(api.CAddr, "m.d", "x+0"))
	if e != api.OK || !system.Same(got, want) {
		t.Errorf("%v\n%v\n%v", e, got, want)
	}
	got, e = System(base(con(api.CAddr, "m.p", "x+0"), con(api.CLoad, "m.q", "m.p")), api.Face{})
	if e != api.OK || !same(got.Cons, []api.Con{con(api.CAddr, "m.p", "x+0"), con(api.CCopy, "m.q", "x+0")}) {
		t.Errorf("%v, %v", e, got)
	}
	for i, c := range []struct {
		s api.System
		f api.Face
		e api.Errno
	}{{api.System{Cons: []api.Con{{}}}, api.Face{}, api.ErrKind}, {s, api.Face{Fns: []string{"z()"}}, api.ErrNone}, {s, api.Face{Objs: []string{"x", "x"}}, api.ErrOrder}, {wide(78), api.Face{}, api.ErrFull}, {wide(300), api.Face{}, api.ErrFull}, {wide(76), api.Face{}, api.OK}} {
		got, e := System(c.s, c.f)
		if e != c.e || e != api.OK && !reflect.DeepEqual(got, api.System{}) {
			t.Errorf("%d: %v, not %v", i, e, c.e)
		}
	}
}

// wide has a pointer to n cells, and n things that are stored through it.
func wide(n int) api.System {
	var s api.System
	for i := range n {
		name := "o" + strconv.Itoa(i)
		s.Objs = append(s.Objs, api.Obj{Name: name, Kinds: "p"})
		s.Cons = append(s.Cons, con(api.CAddr, "m.p", names.Cell(name, 0)), con(api.CStore, "m.p", "m.v"+strconv.Itoa(i)))
	}
	return system.Canon(s)
}

func TestOthers(t *testing.T) { // 20.3
	for seed := range 500 {
		s := samples.System(seed)
		f := samples.Face(seed, s)
		r, e := System(s, f)
		if e != api.OK || system.Check(r) != api.OK {
			t.Fatalf("%d: %v", seed, e)
		}
		x, _ := open.Of(s, f)
		for _, c := range r.Cons {
			if p, ok := pointer(c); ok {
				if !slices.Contains(x.Open, p) {
					t.Errorf("%d: %v is still there", seed, c)
				}
			}
		}
		for turn := range 3 {
			o := samples.Other(seed*3+turn, s, f)
			whole, _ := system.Union([]api.System{s, o})
			parts, e := system.Union([]api.System{r, o})
			a, _ := least.Facts(whole)
			b, _ := least.Facts(parts)
			if e != api.OK || !least.Same(a, b) {
				t.Errorf("%d: %v\n%v\n%v", seed, e, a, b)
			}
		}
	}
}
