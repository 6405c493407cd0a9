package trace

import (
	"reflect"
	"slices"
	"strings"
	"testing"

	"weft/api"
	"weft/least"
	"weft/link"
	"weft/machine"
	"weft/parse"
	"weft/samples"
	"weft/split"
	"weft/summary"
)

func fact(node string, places ...string) api.Fact { return api.Fact{Node: node, Locs: places} }

func read(t *testing.T, s string) []api.Module {
	t.Helper()
	var l []api.Module
	for _, x := range strings.Split(s, "|") {
		m, line, e := parse.Module(x)
		if e != api.OK {
			t.Fatalf("line %d: %v of %s", line, e, x)
		}
		l = append(l, m)
	}
	return l
}

const program = "module a; extern fn f(ptr) ptr; fn main() { var p ptr; var i int; obj x ptr; p = addr x; p = call f(p); i = input; while i { p = new ptr; store p p; } } | module b; fn f(p ptr) ptr { store p p; return p; }"

func TestOf(t *testing.T) { // 36.1
	l := read(t, program)
	for _, n := range []int{0, 3, 9, 50} {
		input, choices := []int{1}, []int{0, 0, 1}
		got, e := Of(l, input, choices, n)
		m, _ := machine.New(l, input, choices)
		steps, last := m.Run(n)
		if e != api.OK || got.Steps != steps || got.Last != last || !least.Same(got.Seen, m.Seen()) {
			t.Errorf("%d: %v, %v", n, e, got)
		}
	}
	if got, e := Of(l[:1], nil, nil, 5); e != api.ErrNone || !reflect.DeepEqual(got, Run{}) {
		t.Errorf("%v, %v", e, got)
	}
}

func TestMissing(t *testing.T) { // 36.2
	seen := []api.Fact{fact("p", "x", "y"), fact("q", "x"), fact("r", "z"), fact("s", "w")}
	facts := []api.Fact{fact("p", "x"), fact("q", "y", "x"), fact("p", "y")}
	if got := Missing(seen, facts, []string{"r", "q", "p"}); !least.Same(got, []api.Fact{fact("p", "y"), fact("r", "z")}) {
		t.Errorf("%v", got)
	}
	if seen[0].Locs[1] != "y" || len(Missing(seen, facts, nil)) != 0 || len(Missing(nil, facts, []string{"p"})) != 0 {
		t.Error("missing of none")
	}
	if got := Missing([]api.Fact{fact("p", "x", "y")}, []api.Fact{fact("p", "x")}, []string{"p"}); !least.Same(got, []api.Fact{fact("p", "y")}) {
		t.Errorf("%v", got)
	}
}

func TestErrors(t *testing.T) { // 36.3
	good := read(t, program)
	big := read(t, "module m; fn main() { } fn f() { "+strings.Repeat("call g(); ", 60)+"} fn g() { "+objs(10)+"}")
	twice := []api.Module{read(t, "module a; static fn x() { } fn main() { }")[0], read(t, "module a; fn y() { }")[0]}
	for i, c := range []struct {
		l []api.Module
		e api.Errno
	}{{good, api.OK}, {good[:1], api.ErrNone}, {nil, api.ErrNone}, {twice, api.ErrTwice}, {big, api.OK}} {
		if got, e := Linked(c.l, nil, nil, 20); e != c.e || len(got) != 0 {
			t.Errorf("%d: %v, %v", i, e, got)
		}
	}
	for i, c := range []struct {
		m api.Module
		e api.Errno
	}{{good[0], api.ErrNone}, {good[1], api.ErrNone}, {big[0], api.ErrFull}, {read(t, "module m; fn main() { p = null; }")[0], api.ErrNone}, {read(t, "module m; fn main() { var p ptr; p = addr main; }")[0], api.OK}} {
		if got, e := Copied(c.m, nil, nil, 20); e != c.e || len(got) != 0 {
			t.Errorf("%d: %v, %v", i, e, got)
		}
	}
}

func objs(n int) string {
	s := ""
	for i := range n {
		s += "obj o" + string(rune('a'+i)) + " int; "
	}
	return s
}

func TestNothingMissing(t *testing.T) { // 36.4, W2, W6
	seen, sites, steps := 0, 0, 0
	for seed := range 500 {
		m := samples.Program(seed)
		src := samples.From(seed)
		input, choices := src.Numbers(20), []int{0, 0, src.Next(2), 0, src.Next(2)}
		n := src.Next(1500)
		parts, e := split.Modules(m, src.Numbers(9), 1+src.Next(4))
		if e != api.OK {
			t.Fatal(e)
		}
		if got, e := Linked(parts, input, choices, n); e != api.OK || len(got) != 0 {
			t.Errorf("%d: %v, missing %v", seed, e, got)
		}
		if got, e := Copied(m, input, choices, n); e != api.OK || len(got) != 0 {
			t.Errorf("%d: %v, missing with copies %v", seed, e, got)
		}
		run, _ := Of(parts, input, choices, n)
		steps += run.Steps
		var sums []api.Summary
		for _, x := range parts {
			s, _ := summary.Of(x, true)
			sums = append(sums, s)
		}
		kept := least.Only(run.Seen, link.Keeps(sums))
		seen += len(kept)
		for _, f := range kept {
			if strings.Contains(f.Node, "@") {
				sites++
			}
		}
	}
	if seen < 500 || sites < 100 || steps < 20000 {
		t.Errorf("%d facts, %d sites, %d steps: nothing was asked", seen, sites, steps)
	}
}

func TestSees(t *testing.T) { // 36.3: what is missing is told, at the nodes that are kept
	l := read(t, program)
	run, _ := Of(l, []int{1}, nil, 20)
	got := Missing(run.Seen, nil, []string{"f$0", "f$1", "main#7+0"})
	if !slices.ContainsFunc(got, func(f api.Fact) bool { return f.Node == "f$1" && slices.Equal(f.Locs, []string{"main%x+0"}) }) {
		t.Errorf("%v", got)
	}
}
