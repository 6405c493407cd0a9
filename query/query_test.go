package query

import (
	"reflect"
	"slices"
	"testing"

	"weft/api"
	"weft/least"
	"weft/lower"
	"weft/parse"
	"weft/samples"
)

func fact(node string, places ...string) api.Fact { return api.Fact{Node: node, Locs: places} }

func read(t *testing.T, s string) api.Module {
	t.Helper()
	m, line, e := parse.Module(s)
	if e != api.OK {
		t.Fatalf("line %d: %v of %s", line, e, s)
	}
	return m
}

func facts() []api.Fact {
	return []api.Fact{fact("b", "y+0", "x+0"), fact("a", "x+0"), fact("c", "z+0"), fact("f@1", "k()", "h~2()", "h()", "g+0", "x", "a()"), fact("a", "z+0"), fact("d")}
}

func TestAlias(t *testing.T) { // 32.1
	for _, c := range []struct {
		a, b string
		want bool
	}{{"a", "b", true}, {"b", "a", true}, {"a", "a", true}, {"a", "c", false}, {"a", "d", false}, {"d", "d", false}, {"a", "z", false}, {"z", "z", false}} {
		if Alias(facts(), c.a, c.b) != c.want {
			t.Errorf("Alias(%s, %s) is not %v", c.a, c.b, c.want)
		}
	}
}

func TestCalleesHolders(t *testing.T) { // 32.1
	if l := Callees(facts(), "f@1"); !slices.Equal(l, []string{"a", "h", "k"}) {
		t.Errorf("%v", l)
	}
	if len(Callees(facts(), "f@2")) != 0 || len(Callees(facts(), "a")) != 0 {
		t.Error("callees of none")
	}
	if l := Holders(append(facts(), fact("b", "x+0")), "x+0"); !slices.Equal(l, []string{"a", "b"}) {
		t.Errorf("%v", l)
	}
	if l := Holders(facts(), "z+0"); !slices.Equal(l, []string{"a", "c"}) || len(Holders(facts(), "q+0")) != 0 {
		t.Errorf("%v", l)
	}
}

func TestCalls(t *testing.T) { // 32.2
	a := read(t, "module a; extern fn e(); fn f() { var p ptr; icall p(); call e(); call g(); call e(); if i { icall p(); } } fn g() { call g(); }")
	b := read(t, "module b; fn e() { var p ptr; icall p(); }")
	l := []api.Fact{fact("f@1", "x()", "e()"), fact("e@1", "x()"), fact("f@6", "y()", "g+0")}
	if got, e := Calls([]api.Module{b, a}, l); e != api.ErrNone || len(got) != 0 {
		t.Errorf("%v, %v", got, e)
	}
	a.Funcs[0].Params = []api.Var{{Name: "i", Kind: api.Int}}
	got, e := Calls([]api.Module{a, b}, l)
	if e != api.OK || !slices.Equal(got, []Edge{{"e", "x"}, {"f", "e"}, {"f", "g"}, {"f", "x"}, {"f", "y"}, {"g", "g"}}) {
		t.Errorf("%v, %v", got, e)
	}
	if got, e := Calls(nil, l); e != api.OK || len(got) != 0 {
		t.Errorf("%v, %v", got, e)
	}
}

func TestReachOrder(t *testing.T) { // 32.3
	l := []Edge{{"f", "g"}, {"g", "h"}, {"g", "f"}}
	if got := Reach(l, []string{"f"}); !slices.Equal(got, []string{"f", "g", "h"}) {
		t.Errorf("%v", got)
	}
	if got := Reach(l, []string{"z", "h", "z"}); !slices.Equal(got, []string{"h", "z"}) || len(Reach(l, nil)) != 0 {
		t.Errorf("%v", got)
	}
	if got := Order(l); !reflect.DeepEqual(got, [][]string{{"h"}, {"f", "g"}}) {
		t.Errorf("%v", got)
	}
	if got := Order([]Edge{{"b", "c"}, {"d", "a"}, {"c", "c"}, {"b", "c"}}); !reflect.DeepEqual(got, [][]string{{"a"}, {"c"}, {"b"}, {"d"}}) || len(Order(nil)) != 0 {
		t.Errorf("%v", got)
	}
}

func TestFollows(t *testing.T) { // 32.4
	for seed := range 100 {
		m := []api.Module{samples.Program(seed)}
		s, _ := lower.Module(m[0])
		more, _ := least.Facts(s)
		var fewer []api.Fact
		src := samples.From(seed)
		for _, f := range more {
			if len(f.Locs) > 1 && src.Chance(2) {
				f.Locs = f.Locs[1:]
			}
			if !src.Chance(3) {
				fewer = append(fewer, f)
			}
		}
		for _, a := range more {
			for _, b := range more {
				if Alias(fewer, a.Node, b.Node) && !Alias(more, a.Node, b.Node) {
					t.Errorf("%d: %s, %s", seed, a.Node, b.Node)
				}
			}
			for _, f := range Callees(fewer, a.Node) {
				if !slices.Contains(Callees(more, a.Node), f) {
					t.Errorf("%d: %s", seed, f)
				}
			}
		}
		x, _ := Calls(m, fewer)
		y, _ := Calls(m, more)
		for _, e := range x {
			if !slices.Contains(y, e) {
				t.Errorf("%d: %v", seed, e)
			}
		}
		once := Reach(y, []string{"main"})
		if !slices.Equal(Reach(y, once), once) {
			t.Errorf("%d: what is reached is not reached from what is reached", seed)
		}
	}
}
