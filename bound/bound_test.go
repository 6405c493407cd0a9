package bound

import (
	"slices"
	"strings"
	"testing"

	"weft/api"
	"weft/least"
	"weft/link"
	"weft/lower"
	"weft/parse"
	"weft/samples"
	"weft/solve"
	"weft/split"
	"weft/summary"
	"weft/system"
)

func read(t *testing.T, s string) []api.Module {
	t.Helper()
	var l []api.Module
	for _, x := range strings.Split(s, "|") {
		m, line, e := parse.Module(x)
		if e != api.OK {
			t.Fatalf("line %d: %v of %s", line, e, x)
		}
		l = append(l, m)
	}
	return l
}

func con(op int, a, b string) api.Con { return api.Con{Op: op, A: a, B: b} }

func TestOf(t *testing.T) { // 37.1
	for i, c := range []struct {
		s    api.System
		want Size
		fuel int
	}{
		{api.System{}, Size{}, 1},
		{api.System{Objs: []api.Obj{{Name: "x", Kinds: "p"}}, Cons: []api.Con{con(api.CAddr, "f.p", "x+0")}}, Size{2, 0}, 27}, // the example
		{api.System{Objs: []api.Obj{{Name: "x", Kinds: "pi"}}, Fns: []api.Fn{{Name: "f()", Kinds: "ip", Ret: "v"}, {Name: "g()", Ret: "p"}}, Cons: []api.Con{con(api.CAddr, "f$1", "x+0"), con(api.CCopy, "f.p", "f$1"), con(api.CLoad, "f.p", "f.p"), con(api.CStore, "f.p", "f.p"), {Op: api.CField, A: "f.p", B: "f.p", Tag: "S"}, {Op: api.CCall, A: "f@1", B: "f.p", Tag: ">", Args: []string{""}}}}, Size{11, 4}, 16 * 16 * 16},
		{api.System{Objs: []api.Obj{{}}}, Size{}, 1},
	} {
		if got := Of(c.s); got != c.want || Fuel(got) != c.fuel {
			t.Errorf("%d: %v, %d", i, got, Fuel(got))
		}
	}
	for seed := range 200 {
		s := samples.System(seed)
		if Fuel(Of(s)) != solve.Enough(s) {
			t.Errorf("%d: %v, %d", seed, Of(s), solve.Enough(s))
		}
	}
}

func TestFuel(t *testing.T) { // 37.1
	for s, want := range map[Size]int{{0, 0}: 1, {2, 1}: 64, {-1, 0}: 0, {0, -1}: 0, {100000, 100000}: 200001 * 200001 * 200001, {100001, 0}: 0, {0, 100001}: 0, {-1 << 63, 1 << 62}: 0} {
		if got := Fuel(s); got != want {
			t.Errorf("%v: %d", s, got)
		}
	}
}

const (
	giver  = "module m; fn id(p ptr) ptr { return p; }"
	wanter = "module n; extern fn id(ptr) ptr; global g ptr; fn f() { var p ptr; p = addr g; p = call id(p); p = addr id; p = icall p(p); }"
)

func TestWhole(t *testing.T) { // 37.2
	l := read(t, giver+"|"+wanter)
	a, _ := lower.Module(l[0])
	b, _ := lower.Module(l[1])
	s, _ := system.Union([]api.System{a, b})
	if got, e := Whole(l); e != api.OK || got != Of(s) || got == (Size{}) {
		t.Errorf("%v, %v", got, e)
	}
	if got, e := Whole(nil); e != api.OK || got != (Size{}) {
		t.Errorf("%v, %v", got, e)
	}
	if got, e := Whole(l[1:]); e != api.OK || got == (Size{}) {
		t.Errorf("%v, %v: who gives what is not asked", got, e)
	}
	for text, want := range map[string]api.Errno{"module a; fn f() { return x; } | module b; fn f(i int) { } fn g() { p = 1; }": api.ErrType, "module a; global g int; | module b; global g ptr;": api.ErrTwice, "module a; fn f() { } | module b; fn f(i int) { } | module c; fn h() { return x; }": api.ErrType} {
		if got, e := Whole(read(t, text)); e != want || got != (Size{}) {
			t.Errorf("%s: %v, %v", text, got, e)
		}
		if got, n, e := Link(read(t, text), nil); e != want || n != 0 || len(got) != 0 {
			t.Errorf("%s: %v, %v", text, got, e)
		}
	}
}

func TestLink(t *testing.T) { // 37.2
	l := read(t, giver+"|"+wanter)
	var sums []api.Summary
	for _, m := range l {
		s, _ := summary.Of(m, true)
		sums = append(sums, s)
	}
	size, _ := Whole(l)
	want, taken, _ := link.Facts(sums, Fuel(size), []int{4, 1})
	if got, n, e := Link(l, []int{4, 1}); e != api.OK || n != taken || !least.Same(got, want) || len(got) == 0 {
		t.Errorf("%v, %d, %v", got, n, e)
	}
	if got, n, e := Link(l[1:], nil); e != api.ErrNone || n != 0 || len(got) != 0 {
		t.Errorf("%v, %d, %v", got, n, e)
	}
	if got, n, e := Link(append(l, l[0]), nil); e != api.ErrTwice || n != 0 || len(got) != 0 {
		t.Errorf("%v, %d, %v", got, n, e)
	}
}

func TestEnough(t *testing.T) { // 37.3, W1, W5
	asked := 0
	for seed := range 300 {
		m := samples.Program(seed)
		src := samples.From(seed)
		parts, e := split.Modules(m, src.Numbers(9), 1+src.Next(5))
		if e != api.OK {
			t.Fatal(e)
		}
		one, _ := Whole([]api.Module{m})
		if got, e := Whole(parts); e != api.OK || got != one {
			t.Errorf("%d: %v, %v, not %v", seed, e, got, one)
		}
		if seed%2 == 0 {
			slices.Reverse(parts)
		}
		s, _ := lower.Module(m)
		want, _ := least.Facts(s)
		got, taken, e := Link(parts, src.Numbers(src.Next(40)))
		if e != api.OK || taken > Fuel(one) {
			t.Errorf("%d: %v, %d taken", seed, e, taken)
		}
		for _, f := range got {
			asked++
			if !slices.Equal(f.Locs, least.Of(want, f.Node)) {
				t.Errorf("%d: %s has %v, not %v", seed, f.Node, f.Locs, least.Of(want, f.Node))
			}
		}
	}
	if asked < 1000 {
		t.Errorf("%d facts: nothing was asked", asked)
	}
}
