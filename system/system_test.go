package system

import (
	"reflect"
	"slices"
	"strings"
	"testing"

	"weft/api"
	"weft/names"
)

func con(op int, a, b string) api.Con { return api.Con{Op: op, A: a, B: b} }

func good() api.System {
	return api.System{
		Objs: []api.Obj{{Name: "f%x", Kinds: "ip", Marks: []api.Mark{{At: 0, Tag: "S"}, {At: 1, Tag: "A"}, {At: 1, Tag: "B"}}}, {Name: "f~1#2", Kinds: "p"}, {Name: "g", Kinds: "ipi"}},
		Fns:  []api.Fn{{Name: "f()", Kinds: "pi", Ret: "p"}, {Name: "h~2()", Ret: "v"}},
		Cons: []api.Con{
			con(api.CAddr, "f.p", "g+0"), con(api.CAddr, "f.p", "k()"), con(api.CCopy, "f$0", "f.p"), con(api.CCopy, "g+1", "f@3"), con(api.CLoad, "f.q", "z.z"), con(api.CStore, "f.q", "f.q"),
			{Op: api.CField, A: "f.q", B: "f.p", K: 0, Tag: "S"}, {Op: api.CField, A: "f.q", B: "f.p", K: 64, Tag: strings.Repeat("x", 60)},
			{Op: api.CCall, A: "f@1", B: "f.q", Tag: ">", Args: []string{""}}, {Op: api.CCall, A: "f@1", B: "f.q", Tag: "pip>p", Args: []string{"f.p", "f.q", "", ""}}, {Op: api.CCall, A: "f@1", B: "f.q", Tag: "pip>p", Args: []string{"f.p", "f.q", "", "f.p"}},
		},
	}
}

func TestNodePlace(t *testing.T) { // 15.1
	for s, want := range map[string][2]bool{"f.x": {true, false}, "f$0": {true, false}, "f@1": {true, false}, "g+0": {true, true}, "f%x+1": {true, true}, "f#1+0": {true, true}, "f()": {false, true}, "f~1()": {false, true}, "g": {false, false}, "f%x": {false, false}, "f#1": {false, false}, "": {false, false}, "f": {false, false}, "f@0": {false, false}} {
		if got := [2]bool{Node(s), Place(s)}; got != want {
			t.Errorf("%q: %v", s, got)
		}
	}
}

func TestCheck(t *testing.T) { // 15.1
	if e := Check(good()); e != api.OK {
		t.Fatal(e)
	}
	if e := Check(api.System{}); e != api.OK {
		t.Fatal(e)
	}
	for i, c := range []struct {
		change func(s *api.System)
		e      api.Errno
	}{
		{func(s *api.System) { s.Objs = make([]api.Obj, 601) }, api.ErrFull}, {func(s *api.System) { s.Fns = make([]api.Fn, 601) }, api.ErrFull}, {func(s *api.System) { s.Cons = make([]api.Con, 6001); s.Objs[0].Name = "" }, api.ErrFull},
		{func(s *api.System) { s.Objs[0].Name = "f.x"; s.Objs[0].Kinds = "" }, api.ErrName}, {func(s *api.System) { s.Objs[0].Name = "f%x+0" }, api.ErrName}, {func(s *api.System) { s.Objs[2].Name = "f()" }, api.ErrName},
		{func(s *api.System) { s.Objs[0].Kinds = "" }, api.ErrKind}, {func(s *api.System) { s.Objs[0].Kinds = "ixp"; s.Objs[0].Marks[0].At = -1 }, api.ErrKind}, {func(s *api.System) { s.Objs[1].Kinds = strings.Repeat("p", 65) }, api.ErrKind}, {func(s *api.System) { s.Objs[1].Kinds = strings.Repeat("p", 64) }, api.OK},
		{func(s *api.System) { s.Objs[0].Marks[0].At = -1 }, api.ErrField}, {func(s *api.System) { s.Objs[0].Marks[2].At = 2 }, api.ErrField}, {func(s *api.System) { s.Objs[0].Marks[2].At = 0 }, api.ErrField}, {func(s *api.System) { s.Objs[0].Marks[0].Tag = "" }, api.ErrField}, {func(s *api.System) { s.Objs[0].Marks[0].Tag = strings.Repeat("x", 61) }, api.ErrField}, {func(s *api.System) { s.Objs[0].Marks[2].Tag = "A" }, api.ErrField}, {func(s *api.System) { s.Objs[0].Marks[0].Tag = "A" }, api.OK}, {func(s *api.System) { s.Objs[0].Marks[1].Tag = "C" }, api.OK},
		{func(s *api.System) { s.Objs[1].Name = "f%x" }, api.ErrOrder}, {func(s *api.System) { s.Objs[1].Name = "a"; s.Objs[2].Kinds = "" }, api.ErrOrder}, {func(s *api.System) { s.Objs[1].Name = "a"; s.Objs[1].Kinds = "" }, api.ErrKind},
		{func(s *api.System) { s.Fns[0].Name = "f" }, api.ErrName}, {func(s *api.System) { s.Fns[0].Kinds = "v" }, api.ErrKind}, {func(s *api.System) { s.Fns[0].Kinds = "ppppppp" }, api.ErrKind}, {func(s *api.System) { s.Fns[0].Kinds = "pppppp" }, api.OK}, {func(s *api.System) { s.Fns[0].Ret = "" }, api.ErrKind}, {func(s *api.System) { s.Fns[0].Ret = "pv" }, api.ErrKind}, {func(s *api.System) { s.Fns[0].Ret = "i" }, api.OK}, {func(s *api.System) { s.Fns[1].Name = "f()" }, api.ErrOrder}, {func(s *api.System) { s.Fns[1].Name = "a()"; s.Cons[0].Op = 0 }, api.ErrOrder},
		{func(s *api.System) { s.Cons[0].Op = 0; s.Cons[0].A = "" }, api.ErrKind}, {func(s *api.System) { s.Cons[10].Op = 7 }, api.ErrKind}, {func(s *api.System) { s.Cons[0].A = "g"; s.Cons[0].K = 1 }, api.ErrName}, {func(s *api.System) { s.Cons[0].B = "f.x" }, api.ErrName}, {func(s *api.System) { s.Cons[2].B = "f()" }, api.ErrName}, {func(s *api.System) { s.Cons[3].A = "" }, api.ErrName}, {func(s *api.System) { s.Cons[8].A = "f.x" }, api.ErrName}, {func(s *api.System) { s.Cons[8].B = "" }, api.ErrName},
		{func(s *api.System) { s.Cons[0].K = 1 }, api.ErrField}, {func(s *api.System) { s.Cons[2].Tag = "x" }, api.ErrField}, {func(s *api.System) { s.Cons[4].Args = []string{"f.x"} }, api.ErrField}, {func(s *api.System) { s.Cons[5].Args = []string{} }, api.OK}, {func(s *api.System) { s.Cons[6].K = -1 }, api.ErrField}, {func(s *api.System) { s.Cons[7].K = 65 }, api.ErrField}, {func(s *api.System) { s.Cons[6].Tag = "" }, api.ErrField}, {func(s *api.System) { s.Cons[7].Tag += "x" }, api.ErrField}, {func(s *api.System) { s.Cons[6].Args = []string{""} }, api.ErrField},
		{func(s *api.System) { s.Cons[8].Tag = "" }, api.ErrField}, {func(s *api.System) { s.Cons[8].Tag = ">v" }, api.ErrField}, {func(s *api.System) { s.Cons[8].Tag = ">pp" }, api.ErrField}, {func(s *api.System) { s.Cons[8].Tag = ">>" }, api.ErrField}, {func(s *api.System) { s.Cons[8].Tag = ">i" }, api.OK}, {func(s *api.System) { s.Cons[8].Tag = "i>" }, api.ErrField}, {func(s *api.System) { s.Cons[8].Args = nil }, api.ErrField}, {func(s *api.System) { s.Cons[8].K = 1 }, api.ErrField}, {func(s *api.System) { s.Cons[8].Args[0] = "f.x" }, api.ErrField},
		{func(s *api.System) { s.Cons[8].Tag, s.Cons[8].Args = "iiiiiii>", make([]string, 8) }, api.ErrField}, {func(s *api.System) { s.Cons[8].Tag, s.Cons[8].Args = "iiiiii>", make([]string, 7) }, api.OK}, {func(s *api.System) { s.Cons[8].Tag = ">p" }, api.OK}, {func(s *api.System) { s.Cons[8].Tag, s.Cons[8].Args[0] = ">p", "f.x" }, api.OK}, {func(s *api.System) { s.Cons[8].Tag, s.Cons[8].Args[0] = ">i", "f.x" }, api.ErrField}, {func(s *api.System) { s.Cons[9].Args[2] = "f.x" }, api.ErrField}, {func(s *api.System) { s.Cons[9].Args[1] = "g" }, api.ErrField},
		{func(s *api.System) { s.Cons[1] = s.Cons[0] }, api.ErrOrder}, {func(s *api.System) { s.Cons[9].Args[3] = "f.p" }, api.ErrOrder}, {func(s *api.System) { s.Cons[2], s.Cons[3] = s.Cons[3], s.Cons[2] }, api.ErrOrder},
	} {
		s := good()
		c.change(&s)
		if e := Check(s); e != c.e {
			t.Errorf("%d: %v, not %v", i, e, c.e)
		}
	}
}

func TestCompare(t *testing.T) { // 15.1
	base := api.Con{Op: 5, A: "b", B: "b", K: 5, Tag: "b", Args: []string{"b", "b"}}
	above := []api.Con{{Op: 6}, {Op: 5, A: "c"}, {Op: 5, A: "b", B: "c"}, {Op: 5, A: "b", B: "b", K: 6}, {Op: 5, A: "b", B: "b", K: 5, Tag: "ba"}, {Op: 5, A: "b", B: "b", K: 5, Tag: "b", Args: []string{"b", "c"}}, {Op: 5, A: "b", B: "b", K: 5, Tag: "b", Args: []string{"c"}}, {Op: 5, A: "b", B: "b", K: 5, Tag: "b", Args: []string{"b", "b", ""}}}
	for i, c := range above {
		if Compare(base, c) >= 0 || Compare(c, base) <= 0 || Compare(c, c) != 0 {
			t.Errorf("%d: %d, %d", i, Compare(base, c), Compare(c, base))
		}
	}
	if Compare(api.Con{Args: []string{}}, api.Con{}) != 0 {
		t.Error("no Args are no Args")
	}
}

func TestCanon(t *testing.T) { // 15.2, 15.4
	s := good()
	want := good()
	slices.Reverse(s.Objs)
	slices.Reverse(s.Fns)
	slices.Reverse(s.Cons)
	s.Objs = append(s.Objs, s.Objs[1])
	s.Fns = append(s.Fns, s.Fns...)
	s.Cons = append(s.Cons, s.Cons[3], s.Cons[0])
	got := Canon(s)
	if !Same(got, want) || Check(got) != api.OK || !reflect.DeepEqual(Canon(got), got) {
		t.Errorf("%v", got)
	}
	got.Objs[0].Marks[0].Tag, got.Cons[10].Args[0] = "x", "x"
	if s.Objs[2].Marks[0].Tag != "S" || s.Cons[0].Args[0] != "f.p" {
		t.Error("the answer is the argument's own")
	}
	odd := api.System{Objs: []api.Obj{{Name: "b", Kinds: "1"}, {Name: "a", Kinds: "2"}, {Name: "b", Kinds: "0"}, {Name: "b", Kinds: "1"}, {Name: "a", Kinds: "2", Marks: []api.Mark{{}}}}, Fns: []api.Fn{{Name: "b", Ret: "1"}, {Name: "b", Ret: "0"}, {Name: "b", Ret: "1"}, {Name: "a"}}}
	got = Canon(odd)
	if !Same(got, api.System{Objs: []api.Obj{{Name: "a", Kinds: "2"}, {Name: "a", Kinds: "2", Marks: []api.Mark{{}}}, {Name: "b", Kinds: "1"}, {Name: "b", Kinds: "0"}}, Fns: []api.Fn{{Name: "a"}, {Name: "b", Ret: "1"}, {Name: "b", Ret: "0"}}}) {
		t.Errorf("%v", got)
	}
}

func TestUnion(t *testing.T) { // 15.2, 15.4
	s := good()
	a := api.System{Objs: s.Objs[:2], Fns: s.Fns[1:], Cons: s.Cons[:7]}
	b := api.System{Objs: s.Objs[1:], Fns: s.Fns[:1], Cons: s.Cons[5:]}
	for _, l := range [][]api.System{{a, b}, {b, a}, {a, b, a, a}, {s, b}, {s}} {
		if u, e := Union(l); !Same(u, s) || e != api.OK {
			t.Errorf("%v, %v", u, e)
		}
	}
	if u, e := Union(nil); !Same(u, api.System{}) || e != api.OK {
		t.Errorf("%v, %v", u, e)
	}
	otherObj := api.System{Objs: []api.Obj{{Name: "g", Kinds: "i"}}}
	otherFn := api.System{Fns: []api.Fn{{Name: "f()", Kinds: "pi", Ret: "i"}}}
	otherMark := api.System{Objs: []api.Obj{{Name: "f%x", Kinds: "ip"}}}
	wrong := api.System{Cons: []api.Con{{}}}
	for _, c := range []struct {
		l []api.System
		e api.Errno
	}{{[]api.System{s, otherObj}, api.ErrTwice}, {[]api.System{otherFn, s}, api.ErrTwice}, {[]api.System{s, otherMark}, api.ErrTwice}, {[]api.System{s, otherObj, wrong}, api.ErrKind}, {[]api.System{otherObj, otherFn}, api.OK}, {[]api.System{many("f"), many("g")}, api.ErrFull}, {[]api.System{many("f"), many("f")}, api.OK}, {[]api.System{many("f"), many("g"), s, otherObj}, api.ErrTwice}} {
		if u, e := Union(c.l); e != c.e || e != api.OK && !reflect.DeepEqual(u, api.System{}) {
			t.Errorf("%v, not %v", e, c.e)
		}
	}
}

// many has more constraints than half a system.
func many(fn string) api.System {
	var s api.System
	for i := range 3001 {
		s.Cons = append(s.Cons, con(api.CAddr, names.Of(names.Formal, fn, "", i), "g+0"))
	}
	return Canon(s)
}

func TestSame(t *testing.T) { // 15.2
	if !Same(good(), good()) {
		t.Error("not the same")
	}
	for i, change := range []func(s *api.System){
		func(s *api.System) { s.Objs[0].Name = "x" }, func(s *api.System) { s.Objs[0].Kinds = "x" }, func(s *api.System) { s.Objs[0].Marks[0].At = 9 }, func(s *api.System) { s.Objs = s.Objs[1:] }, func(s *api.System) { s.Fns[0].Ret = "i" }, func(s *api.System) { s.Fns = nil }, func(s *api.System) { s.Cons[9].Args[0] = "" }, func(s *api.System) { s.Cons[0], s.Cons[1] = s.Cons[1], s.Cons[0] }, func(s *api.System) { s.Cons = s.Cons[:10] },
	} {
		s := good()
		change(&s)
		if Same(s, good()) {
			t.Errorf("%d: the same", i)
		}
	}
}

func TestNodesPlaces(t *testing.T) { // 15.3
	s := good()
	if l := Nodes(s); !slices.Equal(l, []string{"f$0", "f%x+1", "f.p", "f.q", "f@1", "f@3", "f~1#2+0", "g+1", "z.z"}) {
		t.Errorf("%v", l)
	}
	if l := Places(s); !slices.Equal(l, []string{"f%x+0", "f%x+1", "f()", "f~1#2+0", "g+0", "g+1", "g+2", "h~2()", "k()"}) {
		t.Errorf("%v", l)
	}
	example := api.System{Objs: []api.Obj{{Name: "g", Kinds: "ip"}}, Cons: []api.Con{con(api.CAddr, "f.p", "g+0")}}
	if l := Nodes(example); !slices.Equal(l, []string{"f.p", "g+1"}) {
		t.Errorf("%v", l)
	}
	if l := Places(example); !slices.Equal(l, []string{"g+0", "g+1"}) {
		t.Errorf("%v", l)
	}
	s.Cons[0].A = ""
	if len(Nodes(s)) != 0 || len(Places(s)) != 0 {
		t.Error("of a system that may not be")
	}
}
