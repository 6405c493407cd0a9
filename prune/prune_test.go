package prune

import (
	"reflect"
	"slices"
	"strings"
	"testing"

	"weft/api"
	"weft/least"
	"weft/names"
	"weft/open"
	"weft/samples"
	"weft/system"
)

func con(op int, a, b string) api.Con { return api.Con{Op: op, A: a, B: b} }

func base(cons ...api.Con) api.System {
	return system.Canon(api.System{
		Objs: []api.Obj{{Name: "f%o", Kinds: "pi"}, {Name: "x", Kinds: "p"}, {Name: "y", Kinds: "i"}, {Name: "z", Kinds: "i"}},
		Fns:  []api.Fn{{Name: "f()", Kinds: "p", Ret: "p"}, {Name: "f~2()", Kinds: "p", Ret: "p"}, {Name: "g()", Ret: "v"}, {Name: "h()", Ret: "v"}},
		Cons: cons,
	})
}

func TestNeeds(t *testing.T) { // 23.1
	call := api.Con{Op: api.CCall, A: "m@1", B: "m.p", Tag: "pip>p", Args: []string{"m.r", "m.a", "", "m.b"}}
	for i, c := range []struct {
		cons       []api.Con
		keep, want string
	}{
		{nil, "", ""}, {nil, "m.p x+0 y+1 m@1 f$9", "f$9 m.p m@1 x+0 y+1"}, {nil, "x f() junk f%o", ""}, {nil, "m.p m.p", "m.p"},
		{[]api.Con{con(api.CAddr, "m.p", "x+0"), con(api.CCopy, "m.q", "m.p"), con(api.CCopy, "m.r", "m.q"), con(api.CCopy, "m.s", "m.r")}, "m.r", "m.p m.q m.r"},
		{[]api.Con{{Op: api.CField, A: "m.q", B: "m.p", Tag: "S"}}, "m.q", "m.p m.q"}, {[]api.Con{{Op: api.CField, A: "m.q", B: "m.p", Tag: "S"}}, "m.p", "m.p"},
		{[]api.Con{con(api.CLoad, "m.q", "m.p"), con(api.CCopy, "x+0", "m.v")}, "m.q", "f%o+0 m.p m.q m.v x+0"}, {[]api.Con{con(api.CLoad, "m.q", "m.p")}, "", ""},
		{[]api.Con{con(api.CStore, "m.q", "m.p"), con(api.CCopy, "m.p", "m.r")}, "", "m.p m.q m.r"},
		{[]api.Con{call, con(api.CCopy, "m.a", "m.c"), con(api.CCopy, "f$0", "f.x")}, "", "m.a m.b m.c m.p"}, {[]api.Con{call, con(api.CCopy, "f$0", "f.x")}, "m.r", "f$0 f.x f~2$0 g$0 h$0 m.a m.b m.p m.r"}, {[]api.Con{call}, "m@1", "m.a m.b m.p m@1"},
	} {
		if got := Needs(base(c.cons...), strings.Fields(c.keep)); strings.Join(got, " ") != c.want {
			t.Errorf("%d: %v", i, got)
		}
	}
	if l := Needs(api.System{Cons: []api.Con{{}}}, []string{"m.p"}); len(l) != 0 {
		t.Errorf("%v", l)
	}
}

func TestSystem(t *testing.T) { // 23.2
	call := api.Con{Op: api.CCall, A: "m@1", B: "m.c", Tag: ">", Args: []string{""}}
	for i, c := range []struct {
		cons      []api.Con
		keep      string
		f         api.Face
		left      []api.Con
		objs, fns string
	}{
		{[]api.Con{con(api.CAddr, "m.p", "x+0"), con(api.CAddr, "m.q", "y+0")}, "m.q", api.Face{}, []api.Con{con(api.CAddr, "m.q", "y+0")}, "y", ""},
		{nil, "x+0 f$1 g junk h() y", api.Face{}, nil, "x", "f()"}, {nil, "f~2$0", api.Face{}, nil, "", "f~2()"}, {nil, "", api.Face{Fns: []string{"h()", "none()"}, Objs: []string{"f%o", "none"}}, nil, "f%o", "h()"},
		{[]api.Con{con(api.CAddr, "m.p", "g()"), con(api.CAddr, "m.p", "h()"), con(api.CCopy, "m.q", "f~2$0")}, "m.p m.q", api.Face{}, []api.Con{con(api.CAddr, "m.p", "g()"), con(api.CAddr, "m.p", "h()"), con(api.CCopy, "m.q", "f~2$0")}, "", "f~2() g() h()"},
		{[]api.Con{con(api.CStore, "f$1", "x+0"), con(api.CAddr, "f$1", "y+0"), con(api.CAddr, "f$0", "z+0"), call}, "", api.Face{}, []api.Con{con(api.CStore, "f$1", "x+0"), con(api.CAddr, "f$1", "y+0"), call}, "x y", "f()"},
		{[]api.Con{{Op: api.CCall, A: "m@1", B: "m.c", Tag: "p>p", Args: []string{"f%o+0", "f$1"}}}, "", api.Face{}, []api.Con{{Op: api.CCall, A: "m@1", B: "m.c", Tag: "p>p", Args: []string{"f%o+0", "f$1"}}}, "f%o", "f()"},
	} {
		s, before := base(c.cons...), base(c.cons...)
		got, e := System(s, strings.Fields(c.keep), c.f)
		var objs, fns []string
		for _, o := range got.Objs {
			objs = append(objs, o.Name)
		}
		for _, f := range got.Fns {
			fns = append(fns, f.Name)
		}
		if e != api.OK || !system.Same(api.System{Cons: got.Cons}, system.Canon(api.System{Cons: c.left})) || strings.Join(objs, " ") != c.objs || strings.Join(fns, " ") != c.fns || !reflect.DeepEqual(s, before) {
			t.Errorf("%d: %v, %v", i, e, got)
		}
	}
	if s, e := System(api.System{Cons: []api.Con{{}}}, nil, api.Face{}); e != api.ErrKind || !reflect.DeepEqual(s, api.System{}) {
		t.Errorf("%v", e)
	}
}

// slow are the needed nodes, by the words of the chapter.
func slow(s api.System, keep []string) []string {
	in := map[string]bool{}
	for _, k := range keep {
		in[k] = system.Node(k)
	}
	for grown := true; grown; {
		grown = false
		need := func(l ...string) {
			for _, n := range l {
				if n != "" && !in[n] {
					in[n], grown = true, true
				}
			}
		}
		for _, c := range s.Cons {
			switch c.Op {
			case api.CStore:
				need(c.A, c.B)
			case api.CCall:
				need(c.B)
				need(c.Args[1:]...)
				for _, f := range s.Fns {
					if in[c.Args[0]] {
						need(strings.TrimSuffix(f.Name, "()") + "$0")
					}
				}
			case api.CCopy, api.CLoad, api.CField:
				if !in[c.A] {
					continue
				}
				need(c.B)
				for _, o := range s.Objs {
					for k := range len(o.Kinds) {
						if c.Op == api.CLoad && o.Kinds[k] == 'p' {
							need(names.Cell(o.Name, k))
						}
					}
				}
			}
		}
	}
	var l []string
	for n, ok := range in {
		if ok {
			l = append(l, n)
		}
	}
	slices.Sort(l)
	return l
}

func TestSamples(t *testing.T) { // 23.1, 23.3
	fewer := 0
	for seed := range 500 {
		s := samples.System(seed)
		f := samples.Face(seed, s)
		src := samples.From(seed)
		x, _ := open.Of(s, f)
		var keep []string
		for _, n := range x.Open {
			node, _ := names.Read(n)
			if node.Kind == names.Formal || node.Cell >= 0 {
				keep = append(keep, n)
			}
		}
		for range 2 {
			keep = append(keep, src.Of(system.Nodes(s)))
		}
		if got := Needs(s, keep); !slices.Equal(got, slow(s, keep)) {
			t.Errorf("%d: %v, not %v", seed, got, slow(s, keep))
		}
		p, e := System(s, keep, f)
		if e != api.OK || system.Check(p) != api.OK {
			t.Fatalf("%d: %v", seed, e)
		}
		fewer += len(s.Cons) - len(p.Cons)
		for turn := range 3 {
			o := samples.Other(seed*3+turn, s, f)
			whole, _ := system.Union([]api.System{s, o})
			left, e := system.Union([]api.System{p, o})
			a, _ := least.Facts(whole)
			b, _ := least.Facts(left)
			for _, n := range keep {
				if e != api.OK || !slices.Equal(least.Of(a, n), least.Of(b, n)) {
					t.Errorf("%d: %v, %s had %v, has %v", seed, e, n, least.Of(a, n), least.Of(b, n))
				}
			}
		}
	}
	if fewer < 300 {
		t.Errorf("%d constraints fewer: nothing was asked", fewer)
	}
}
