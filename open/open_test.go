package open

import (
	"reflect"
	"slices"
	"strings"
	"testing"

	"weft/api"
	"weft/least"
	"weft/lower"
	"weft/names"
	"weft/parse"
	"weft/samples"
	"weft/system"
)

func con(op int, a, b string) api.Con { return api.Con{Op: op, A: a, B: b} }

// base has an object s of more cells than one, an object x, and functions.
func base(cons ...api.Con) api.System {
	return system.Canon(api.System{
		Objs: []api.Obj{{Name: "s", Kinds: "pip", Marks: []api.Mark{{At: 0, Tag: "S"}}}, {Name: "x", Kinds: "p"}, {Name: "y", Kinds: "i"}},
		Fns:  []api.Fn{{Name: "e()", Kinds: "p", Ret: "p"}, {Name: "f()", Kinds: "ip", Ret: "v"}, {Name: "g()", Kinds: "p", Ret: "p"}},
		Cons: cons,
	})
}

func TestFace(t *testing.T) { // 19.1
	m, _, _ := parse.Module("module m; extern fn e(); extern global eg int; extern fn a(); static global s int; global g int; global b ptr; static fn h() { } fn f() { } fn c() { }")
	f := Face(m)
	if !slices.Equal(f.Fns, []string{"a()", "c()", "e()", "f()"}) || !slices.Equal(f.Objs, []string{"b", "eg", "g"}) {
		t.Errorf("%v", f)
	}
	m.Funcs = append(m.Funcs, m.Funcs...)
	m.Globals = append(m.Globals, m.Globals...)
	if !reflect.DeepEqual(Face(m), f) {
		t.Errorf("%v", Face(m))
	}
	if f := Face(api.Module{}); len(f.Fns)+len(f.Objs) != 0 {
		t.Errorf("%v", f)
	}
}

func TestErrors(t *testing.T) { // 19.2
	for i, c := range []struct {
		s api.System
		f api.Face
		e api.Errno
	}{
		{api.System{Cons: []api.Con{{}}}, api.Face{Fns: []string{"z()"}}, api.ErrKind},
		{base(), api.Face{}, api.OK}, {base(), api.Face{Fns: []string{"e()", "f()"}, Objs: []string{"s", "y"}}, api.OK},
		{base(), api.Face{Fns: []string{"z()"}, Objs: []string{"y", "x"}}, api.ErrNone}, {base(), api.Face{Fns: []string{"z()", "e()"}}, api.ErrOrder}, {base(), api.Face{Fns: []string{"e()", "e()"}}, api.ErrOrder},
		{base(), api.Face{Objs: []string{"z", "x"}}, api.ErrOrder}, {base(), api.Face{Objs: []string{"x", "z"}}, api.ErrNone}, {base(), api.Face{Fns: []string{"s"}}, api.ErrNone}, {base(), api.Face{Objs: []string{"e()"}}, api.ErrNone}, {base(), api.Face{Objs: []string{"x+0"}}, api.ErrNone},
	} {
		x, e := Of(c.s, c.f)
		if e != c.e || e != api.OK && !reflect.DeepEqual(x, api.Escape{}) {
			t.Errorf("%d: %v, not %v", i, e, c.e)
		}
	}
}

func TestRules(t *testing.T) { // 19.2, each rule alone
	fns := func(l ...string) api.Face { return api.Face{Fns: l} }
	objs := func(l ...string) api.Face { return api.Face{Objs: l} }
	call := func(tag string, args ...string) api.Con {
		return api.Con{Op: api.CCall, A: "m@1", B: "m.p", Tag: tag, Args: args}
	}
	for i, c := range []struct {
		cons      []api.Con
		f         api.Face
		open, out string
	}{
		{nil, api.Face{}, "", ""},
		{nil, fns("f()"), "f$0 f$1 f$2", "f()"},
		{nil, objs("s"), "s+0 s+2", "s+0 s+1 s+2"},
		{nil, objs("y"), "", "y+0"},
		// what open Formals, and open cells, have is out; an object is out with one of its cells
		{[]api.Con{con(api.CAddr, "e$0", "s+1")}, fns("e()"), "e$0 e$1 s+0 s+2", "e() s+0 s+1 s+2"},
		{[]api.Con{con(api.CAddr, "x+0", "f()")}, objs("x"), "f$0 f$1 f$2 x+0", "f() x+0"},
		{[]api.Con{con(api.CAddr, "x+0", "z+5"), con(api.CAddr, "x+0", "k()")}, objs("x"), "x+0", "k() x+0 z+5"},
		// what an open variable has is not
		{[]api.Con{con(api.CCopy, "m.p", "e$0"), con(api.CAddr, "m.p", "y+0")}, fns("e()"), "e$0 e$1 m.p", "e()"},
		{[]api.Con{con(api.CCopy, "e$0", "m.p")}, fns("e()"), "e$0 e$1", "e()"},
		{[]api.Con{con(api.CLoad, "m.q", "e$1"), con(api.CCopy, "m.r", "m.q")}, fns("e()"), "e$0 e$1 m.q m.r", "e()"},
		{[]api.Con{con(api.CAddr, "m.p", "x+0"), con(api.CLoad, "m.q", "m.p")}, objs("x"), "m.q x+0", "x+0"},
		{[]api.Con{con(api.CAddr, "m.p", "s+0"), con(api.CLoad, "m.q", "m.p")}, objs("x"), "x+0", "x+0"},
		{[]api.Con{con(api.CStore, "e$1", "m.p"), con(api.CAddr, "m.p", "y+0")}, fns("e()"), "e$0 e$1", "e() y+0"},
		{[]api.Con{con(api.CStore, "m.p", "e$1"), con(api.CAddr, "m.p", "x+0")}, fns("e()"), "e$0 e$1 x+0", "e()"},
		{[]api.Con{con(api.CStore, "m.p", "e$1"), con(api.CAddr, "m.p", "y+0")}, fns("e()"), "e$0 e$1", "e()"},
		{[]api.Con{{Op: api.CField, A: "m.p", B: "e$1", K: 1, Tag: "S"}}, fns("e()"), "e$0 e$1 m.p", "e()"},
		{[]api.Con{con(api.CCopy, "m.p", "e$1"), con(api.CAddr, "m.a", "y+0"), call("pp>p", "m.r", "m.a", "")}, fns("e()"), "e$0 e$1 m.p m.r m@1", "e() y+0"},
		{[]api.Con{con(api.CAddr, "m.p", "g()"), con(api.CCopy, "m.a", "e$1"), con(api.CCopy, "g$0", "g$1"), call("p>p", "m.r", "m.a")}, fns("e()"), "e$0 e$1 g$0 g$1 m.a m.r", "e()"},
		{[]api.Con{con(api.CAddr, "m.p", "g()"), con(api.CCopy, "m.a", "e$1"), call("p>i", "", "m.a")}, fns("e()"), "e$0 e$1 m.a", "e()"},
		{[]api.Con{con(api.CAddr, "m.p", "g()"), con(api.CCopy, "g$0", "e$0"), call("p>p", "", "m.a")}, fns("e()"), "e$0 e$1 g$0", "e()"},
	} {
		s := base(c.cons...)
		x, e := Of(s, c.f)
		if e != api.OK || strings.Join(x.Open, " ") != c.open || strings.Join(x.Out, " ") != c.out {
			t.Errorf("%d: %v, open %v, out %v", i, e, x.Open, x.Out)
		}
		if facts, _ := least.Facts(s); !least.Same(x.Facts, facts) {
			t.Errorf("%d: %v", i, x.Facts)
		}
	}
}

func TestExample(t *testing.T) {
	m, _, _ := parse.Module("module m; extern fn e(ptr); static global g [2]ptr; fn f() { var p ptr; p = addr g; call e(p); }")
	s, _ := lower.Module(m)
	x, e := Of(s, Face(m))
	if e != api.OK || !slices.Contains(x.Out, "g+0") || slices.Contains(x.Open, "f.p") {
		t.Errorf("%v, %v", x, e)
	}
}

// own tells whether a node is one that others have of their own: nothing of it is the system's.
func own(s api.System, node string) bool {
	n, _ := names.Read(node)
	if n.Kind == names.Formal {
		return !slices.ContainsFunc(s.Fns, func(f api.Fn) bool { return f.Name == names.Of(names.Func, n.Fn, "", 0) })
	}
	obj, _, cell := names.Object(node)
	if cell {
		return !slices.ContainsFunc(s.Objs, func(o api.Obj) bool { return o.Name == obj })
	}
	return n.Fn == "w"
}

func TestOthers(t *testing.T) { // 19.3
	opened, closed := 0, 0
	for seed := range 500 {
		s := samples.System(seed)
		f := samples.Face(seed, s)
		x, e := Of(s, f)
		if e != api.OK {
			t.Fatal(e)
		}
		for turn := range 3 {
			all, e := system.Union([]api.System{s, samples.Other(seed*3+turn, s, f)})
			if e != api.OK {
				t.Fatal(e)
			}
			facts, _ := least.Facts(all)
			places := system.Places(s)
			for _, fact := range facts {
				switch {
				case own(s, fact.Node):
					for _, p := range fact.Locs {
						if slices.Contains(places, p) && !slices.Contains(x.Out, p) {
							t.Errorf("%d: %s of others has %s, which is not out", seed, fact.Node, p)
						}
					}
				case slices.Contains(x.Open, fact.Node):
					opened++
				case !slices.Equal(fact.Locs, least.Of(x.Facts, fact.Node)):
					t.Errorf("%d: %s is not open, and has %v, not %v", seed, fact.Node, fact.Locs, least.Of(x.Facts, fact.Node))
				default:
					closed++
				}
			}
		}
	}
	if opened == 0 || closed == 0 {
		t.Errorf("%d open, %d not: nothing was asked", opened, closed)
	}
}

// slow is what a system may have to do with others, by the words of the chapter.
func slow(s api.System, f api.Face) (open, out []string) {
	facts, _ := least.Facts(s)
	isOpen, isOut := map[string]bool{}, map[string]bool{}
	grown := true
	put := func(m map[string]bool, so bool, l ...string) {
		for _, x := range l {
			if so && x != "" && !m[x] {
				m[x], grown = true, true
			}
		}
	}
	pointers := map[string]bool{}
	for _, o := range s.Objs {
		for k := range len(o.Kinds) {
			pointers[names.Cell(o.Name, k)] = o.Kinds[k] == 'p'
		}
	}
	cells := func(node string) []string {
		return slices.DeleteFunc(least.Of(facts, node), func(p string) bool { return !pointers[p] })
	}
	formal := func(fn api.Fn, n int) string {
		return strings.TrimSuffix(fn.Name, "()") + "$" + string(rune('0'+n))
	}
	for grown {
		grown = false
		put(isOut, true, f.Fns...)
		for _, o := range s.Objs {
			for k := range len(o.Kinds) {
				put(isOut, slices.Contains(f.Objs, o.Name), names.Cell(o.Name, k))
				for j := range len(o.Kinds) {
					put(isOut, isOut[names.Cell(o.Name, k)], names.Cell(o.Name, j))
				}
				if c := names.Cell(o.Name, k); pointers[c] && isOut[c] {
					put(isOpen, true, c)
					put(isOut, true, least.Of(facts, c)...)
				}
			}
		}
		for _, fn := range s.Fns {
			for n := range len(fn.Kinds) + 1 {
				if isOut[fn.Name] {
					put(isOpen, true, formal(fn, n))
					put(isOut, true, least.Of(facts, formal(fn, n))...)
				}
			}
		}
		for _, c := range s.Cons {
			switch c.Op {
			case api.CCopy, api.CField:
				put(isOpen, isOpen[c.B], c.A)
			case api.CLoad:
				put(isOpen, isOpen[c.B] || slices.ContainsFunc(cells(c.B), func(p string) bool { return isOpen[p] }), c.A)
			case api.CStore:
				put(isOut, isOpen[c.A], least.Of(facts, c.B)...)
				put(isOpen, isOpen[c.B], cells(c.A)...)
			case api.CCall:
				put(isOpen, isOpen[c.B], c.A, c.Args[0])
				for i, a := range c.Args {
					put(isOut, isOpen[c.B] && i > 0 && a != "", least.Of(facts, a)...)
				}
				kinds, ret, _ := strings.Cut(c.Tag, ">")
				for _, fn := range s.Fns {
					if fn.Kinds != kinds || ret != "" && ret != fn.Ret || !slices.Contains(least.Of(facts, c.B), fn.Name) {
						continue
					}
					put(isOpen, isOpen[formal(fn, 0)], c.Args[0])
					for i, a := range c.Args[1:] {
						put(isOpen, a != "" && isOpen[a], formal(fn, i+1))
					}
				}
			}
		}
	}
	for x := range isOpen {
		open = append(open, x)
	}
	for x := range isOut {
		out = append(out, x)
	}
	slices.Sort(open)
	slices.Sort(out)
	return open, out
}

func TestSlow(t *testing.T) { // 19.2
	for seed := range 600 {
		s := samples.System(seed)
		f := samples.Face(seed, s)
		if seed%3 == 0 {
			m := samples.Module(seed)
			s, _ = lower.Module(m)
			f = Face(m)
		}
		x, e := Of(s, f)
		open, out := slow(s, f)
		if e != api.OK || !slices.Equal(x.Open, open) || !slices.Equal(x.Out, out) {
			t.Errorf("%d: %v, open %v, not %v, out %v, not %v", seed, e, x.Open, open, x.Out, out)
		}
	}
}
