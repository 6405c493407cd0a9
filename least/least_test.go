package least

import (
	"reflect"
	"slices"
	"strings"
	"testing"

	"weft/api"
	"weft/names"
	"weft/samples"
	"weft/system"
)

func con(op int, a, b string) api.Con { return api.Con{Op: op, A: a, B: b} }

func fact(node string, places ...string) api.Fact { return api.Fact{Node: node, Locs: places} }

// base has objects and functions of all sorts.
func base(cons ...api.Con) api.System {
	return system.Canon(api.System{
		Objs: []api.Obj{{Name: "s", Kinds: "pipp", Marks: []api.Mark{{At: 0, Tag: "S"}, {At: 1, Tag: "T"}, {At: 1, Tag: "[]ptr"}}}, {Name: "x", Kinds: "p"}, {Name: "y", Kinds: "i"}},
		Fns:  []api.Fn{{Name: "f()", Kinds: "p", Ret: "p"}, {Name: "g()", Kinds: "p", Ret: "v"}, {Name: "h()", Kinds: "ip", Ret: "i"}, {Name: "f~3()", Kinds: "p", Ret: "p"}},
		Cons: cons,
	})
}

func TestEachOp(t *testing.T) { // 17.1
	for i, c := range []struct {
		cons []api.Con
		want []api.Fact
	}{
		{nil, nil},
		{[]api.Con{con(api.CAddr, "m.p", "x+0"), con(api.CAddr, "m.p", "k()"), con(api.CAddr, "m.p", "z+7")}, []api.Fact{fact("m.p", "k()", "x+0", "z+7")}},
		{[]api.Con{con(api.CAddr, "m.p", "x+0"), con(api.CCopy, "m.q", "m.p"), con(api.CCopy, "m.a", "m.q")}, []api.Fact{fact("m.a", "x+0"), fact("m.p", "x+0"), fact("m.q", "x+0")}},
		{[]api.Con{con(api.CAddr, "m.p", "x+0"), con(api.CAddr, "m.v", "y+0"), con(api.CStore, "m.p", "m.v"), con(api.CLoad, "m.q", "m.p")}, []api.Fact{fact("m.p", "x+0"), fact("m.q", "y+0"), fact("m.v", "y+0"), fact("x+0", "y+0")}},
		// no pointer cells: y+0, s+1, a function, an object that is not of the system
		{[]api.Con{con(api.CAddr, "m.p", "y+0"), con(api.CAddr, "m.p", "s+1"), con(api.CAddr, "m.p", "f()"), con(api.CAddr, "m.p", "z+0"), con(api.CAddr, "m.v", "x+0"), con(api.CStore, "m.p", "m.v"), con(api.CLoad, "m.q", "m.p"), con(api.CAddr, "z+0", "x+0")}, []api.Fact{fact("m.p", "f()", "s+1", "y+0", "z+0"), fact("m.v", "x+0"), fact("z+0", "x+0")}},
		{[]api.Con{con(api.CAddr, "m.p", "s+0"), {Op: api.CField, A: "m.q", B: "m.p", K: 2, Tag: "S"}, {Op: api.CField, A: "m.r", B: "m.q", Tag: "S"}, {Op: api.CField, A: "m.s", B: "m.p", K: 4, Tag: "S"}, {Op: api.CField, A: "m.t", B: "m.p", K: 3, Tag: "S"}}, []api.Fact{fact("m.p", "s+0"), fact("m.q", "s+2"), fact("m.t", "s+3")}},
		{[]api.Con{con(api.CAddr, "m.p", "s+1"), con(api.CAddr, "m.p", "f()"), con(api.CAddr, "m.p", "z+1"), {Op: api.CField, A: "m.q", B: "m.p", K: 0, Tag: "[]ptr"}, {Op: api.CField, A: "m.r", B: "m.p", K: 1, Tag: "T"}, {Op: api.CField, A: "m.s", B: "m.p", K: 0, Tag: "S"}}, []api.Fact{fact("m.p", "f()", "s+1", "z+1"), fact("m.q", "s+1"), fact("m.r", "s+2")}},
		{[]api.Con{con(api.CAddr, "m.p", "f()"), con(api.CAddr, "m.p", "g()"), con(api.CAddr, "m.p", "h()"), con(api.CAddr, "m.p", "x+0"), con(api.CAddr, "m.p", "k()"), con(api.CAddr, "m.a", "y+0"), con(api.CCopy, "f$0", "f$1"), {Op: api.CCall, A: "m@1", B: "m.p", Tag: "p>", Args: []string{"", "m.a"}}},
			[]api.Fact{fact("f$0", "y+0"), fact("f$1", "y+0"), fact("g$1", "y+0"), fact("m.a", "y+0"), fact("m.p", "f()", "g()", "h()", "k()", "x+0"), fact("m@1", "f()", "g()")}},
		{[]api.Con{con(api.CAddr, "m.p", "f()"), con(api.CAddr, "m.p", "g()"), con(api.CAddr, "m.p", "f~3()"), con(api.CAddr, "m.a", "y+0"), con(api.CCopy, "f~3$0", "f~3$1"), {Op: api.CCall, A: "m@1", B: "m.p", Tag: "p>p", Args: []string{"m.r", "m.a"}}},
			[]api.Fact{fact("f$1", "y+0"), fact("f~3$0", "y+0"), fact("f~3$1", "y+0"), fact("m.a", "y+0"), fact("m.p", "f()", "f~3()", "g()"), fact("m.r", "y+0"), fact("m@1", "f()", "f~3()")}},
		{[]api.Con{con(api.CAddr, "m.p", "h()"), con(api.CAddr, "m.a", "y+0"), {Op: api.CCall, A: "m@1", B: "m.p", Tag: "ip>i", Args: []string{"", "", "m.a"}}, {Op: api.CCall, A: "m@2", B: "m.p", Tag: "ip>p", Args: []string{"m.b", "", "m.a"}}, {Op: api.CCall, A: "m@3", B: "m.p", Tag: "ip>", Args: []string{"", "", ""}}, {Op: api.CCall, A: "m@4", B: "m.p", Tag: "pp>", Args: []string{"", "", ""}}},
			[]api.Fact{fact("h$2", "y+0"), fact("m.a", "y+0"), fact("m.p", "h()"), fact("m@1", "h()"), fact("m@3", "h()")}},
	} {
		if got, e := Facts(base(c.cons...)); e != api.OK || !Same(got, c.want) {
			t.Errorf("%d: %v\n%v\n%v", i, e, got, c.want)
		}
	}
	if l, e := Facts(api.System{Cons: []api.Con{{}}}); len(l) != 0 || e != api.ErrKind {
		t.Errorf("%v, %v", l, e)
	}
}

func TestRising(t *testing.T) { // 17.1: places rise as texts
	s := api.System{Objs: []api.Obj{{Name: "g", Kinds: strings.Repeat("p", 12)}}}
	for _, cell := range []string{"g+2", "g+10", "g+1", "g+11"} {
		s.Cons = append(s.Cons, con(api.CAddr, "f.p", cell))
	}
	if l, _ := Facts(system.Canon(s)); !Same(l, []api.Fact{fact("f.p", "g+1", "g+10", "g+11", "g+2")}) {
		t.Errorf("%v", l)
	}
}

// holds tells whether facts hold for a system, by the words of the chapter.
func holds(s api.System, l []api.Fact) string {
	has := func(node string) []string { return Of(l, node) }
	all := func(node string, places []string) bool {
		return Within([]api.Fact{{Node: node, Locs: places}}, l)
	}
	cell := func(p string) (api.Obj, int, bool) {
		obj, k, _ := names.Object(p)
		for _, o := range s.Objs {
			if o.Name == obj && k < len(o.Kinds) {
				return o, k, true
			}
		}
		return api.Obj{}, 0, false
	}
	for _, c := range s.Cons {
		so := true
		switch c.Op {
		case api.CAddr:
			so = all(c.A, []string{c.B})
		case api.CCopy:
			so = all(c.A, has(c.B))
		case api.CLoad:
			for _, p := range has(c.B) {
				if o, k, ok := cell(p); ok && o.Kinds[k] == 'p' {
					so = so && all(c.A, has(p))
				}
			}
		case api.CStore:
			for _, p := range has(c.A) {
				if o, k, ok := cell(p); ok && o.Kinds[k] == 'p' {
					so = so && all(p, has(c.B))
				}
			}
		case api.CField:
			for _, p := range has(c.B) {
				if o, k, ok := cell(p); ok && slices.Contains(o.Marks, api.Mark{At: k, Tag: c.Tag}) && k+c.K < len(o.Kinds) {
					so = so && all(c.A, []string{names.Cell(o.Name, k+c.K)})
				}
			}
		case api.CCall:
			kinds, ret, _ := strings.Cut(c.Tag, ">")
			for _, f := range s.Fns {
				if !slices.Contains(has(c.B), f.Name) || f.Kinds != kinds || ret != "" && ret != f.Ret {
					continue
				}
				fn := strings.TrimSuffix(f.Name, "()")
				so = so && all(c.A, []string{f.Name})
				if c.Args[0] != "" {
					so = so && all(c.Args[0], has(fn+"$0"))
				}
				for i, a := range c.Args[1:] {
					if a != "" {
						so = so && all(fn+"$"+string(rune('1'+i)), has(a))
					}
				}
			}
		}
		if !so {
			return "constraint " + c.A + " " + c.B
		}
	}
	return ""
}

func TestFollows(t *testing.T) { // 17.1, 17.3
	for seed := range 400 {
		s := samples.System(seed)
		l, e := Facts(s)
		if e != api.OK {
			t.Fatal(e)
		}
		if wrong := holds(s, l); wrong != "" {
			t.Errorf("%d: does not hold: %s", seed, wrong)
		}
		if seed < 100 {
			least(t, s, l)
		}
		more := s
		more.Cons = append(slices.Clone(s.Cons), samples.System(seed+1000).Cons...)
		if m, e := Facts(system.Canon(more)); e != api.OK || !Within(l, m) {
			t.Errorf("%d: %v: more has fewer", seed, e)
		}
		own := s
		own.Cons = slices.Clone(s.Cons)
		for _, f := range l {
			for _, p := range f.Locs {
				own.Cons = append(own.Cons, con(api.CAddr, f.Node, p))
			}
		}
		if again, e := Facts(system.Canon(own)); e != api.OK || !Same(l, again) {
			t.Errorf("%d: %v: with its own facts it has others", seed, e)
		}
	}
}

// least asks whether each fact is needed: there are facts that hold, without it, unless each order of deriving comes to it. So facts are derived one by one, from none on.
func least(t *testing.T, s api.System, l []api.Fact) {
	t.Helper()
	var got []api.Fact
	for grown := true; grown; {
		grown = false
		for _, f := range l {
			for _, p := range f.Locs {
				if slices.Contains(Of(got, f.Node), p) || !derived(s, got, f.Node, p) {
					continue
				}
				grown = true
				if i := slices.IndexFunc(got, func(g api.Fact) bool { return g.Node == f.Node }); i >= 0 {
					got[i].Locs = append(got[i].Locs, p)
				} else {
					got = append(got, fact(f.Node, p))
				}
			}
		}
	}
	if !Within(l, got) {
		t.Errorf("there are facts that do not follow: %v, %v", l, got)
	}
}

// derived tells whether one constraint asks for a fact, where others are so: that is, whether facts with all but it do not hold.
func derived(s api.System, got []api.Fact, node, place string) bool {
	for _, c := range s.Cons {
		one := api.System{Objs: s.Objs, Fns: s.Fns, Cons: []api.Con{c}}
		for _, f := range got {
			for _, p := range f.Locs {
				one.Cons = append(one.Cons, con(api.CAddr, f.Node, p))
			}
		}
		r := newRun(system.Canon(one))
		for i, x := range r.cons {
			if x.Op == api.CAddr {
				r.make(i)
			}
		}
		for i := range r.cons {
			if system.Compare(r.cons[i], c) == 0 {
				r.make(i)
			}
		}
		if slices.Contains(Of(r.list(), node), place) {
			return true
		}
	}
	return false
}

func TestLists(t *testing.T) { // 17.2
	l := []api.Fact{fact("b", "x", "y"), fact("a", "z"), fact("b", "w"), fact("c")}
	if got := Of(l, "b"); !slices.Equal(got, []string{"x", "y"}) {
		t.Errorf("%v", got)
	}
	Of(l, "b")[0] = "!"
	if len(Of(l, "d")) != 0 || len(Of(nil, "b")) != 0 || l[0].Locs[0] != "x" {
		t.Error("Of")
	}
	only := Only(l, []string{"c", "b", "d"})
	if !reflect.DeepEqual(only, []api.Fact{fact("b", "x", "y"), fact("b", "w"), fact("c")}) {
		t.Errorf("%v", only)
	}
	only[0].Locs[0] = "!"
	if l[0].Locs[0] != "x" || len(Only(l, nil)) != 0 {
		t.Error("Only")
	}
	for i, c := range []struct {
		a, b []api.Fact
		want bool
	}{
		{nil, nil, true}, {nil, l, true}, {l[:2], l, true}, {l, l, false}, {[]api.Fact{fact("b", "w")}, l, false}, {[]api.Fact{fact("b", "y", "y", "x")}, l, true}, {[]api.Fact{fact("d")}, l, true}, {[]api.Fact{fact("d", "x")}, l, false}, {[]api.Fact{fact("a", "z")}, []api.Fact{fact("a", "w"), fact("a", "z")}, false}, {[]api.Fact{fact("a", "z")}, []api.Fact{fact("a", "z", "b")}, true},
	} {
		if Within(c.a, c.b) != c.want {
			t.Errorf("%d: Within is not %v", i, c.want)
		}
	}
	if !Same(l, slices.Clone(l)) || !Same(nil, []api.Fact{}) || Same(l, l[:3]) || Same([]api.Fact{fact("a", "x", "y")}, []api.Fact{fact("a", "y", "x")}) || Same([]api.Fact{fact("a")}, []api.Fact{fact("b")}) || Same(l[:2], []api.Fact{l[1], l[0]}) {
		t.Error("Same")
	}
}
