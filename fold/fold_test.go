package fold

import (
	"reflect"
	"slices"
	"strconv"
	"strings"
	"testing"

	"weft/api"
	"weft/least"
	"weft/names"
	"weft/samples"
	"weft/system"
)

func con(op int, a, b string) api.Con { return api.Con{Op: op, A: a, B: b} }

func canon(cons ...api.Con) api.System { return system.Canon(api.System{Cons: cons}) }

// cons reads copies (q p) and addresses (q &g).
func cons(l ...string) []api.Con {
	var all []api.Con
	for _, s := range l {
		a, b, _ := strings.Cut(s, " ")
		if place, ok := strings.CutPrefix(b, "&"); ok {
			all = append(all, con(api.CAddr, "m."+a, place+"+0"))
		} else {
			all = append(all, con(api.CCopy, "m."+a, "m."+b))
		}
	}
	return all
}

func TestSystem(t *testing.T) { // 22.1
	for i, c := range []struct {
		cons   []api.Con
		hide   string
		want   []api.Con
		folded string
	}{
		{cons("q &x", "r q"), "m.q", cons("r &x"), "m.q"}, {cons("q &x"), "m.q", nil, "m.q"}, {cons("r q"), "m.q", nil, "m.q"}, // the examples
		{cons("q &x", "r q"), "", cons("q &x", "r q"), ""}, {nil, "m.q", nil, ""}, {cons("q &x", "r q"), "m.q m.z junk m.q", cons("r &x"), "m.q"},
		{cons("q p", "q &x", "q &y", "r q"), "m.q", cons("r p", "r &x", "r &y"), "m.q"}, {cons("q p", "a q", "b q", "c q"), "m.q", cons("a p", "b p", "c p"), "m.q"},
		{cons("q o", "q p", "a q", "b q"), "m.q", cons("a o", "a p", "b o", "b p"), "m.q"}, {cons("q o", "q p", "a q", "b q", "c q"), "m.q", cons("q o", "q p", "a q", "b q", "c q"), ""}, {cons("q o", "q &x", "q &y", "a q", "b q"), "m.q", cons("q o", "q &x", "q &y", "a q", "b q"), ""},
		{cons("q p", "p q"), "m.q", nil, "m.q"}, {cons("q p", "p q", "q &x"), "m.q", cons("p &x"), "m.q"}, {cons("q q", "r q"), "m.q", cons("q q", "r q"), ""},
		{append(cons("q &x", "r q"), con(api.CLoad, "m.z", "m.q")), "m.q", append(cons("q &x", "r q"), con(api.CLoad, "m.z", "m.q")), ""}, {append(cons("r q"), con(api.CLoad, "m.q", "m.z")), "m.q", append(cons("r q"), con(api.CLoad, "m.q", "m.z")), ""}, {append(cons("q &x"), con(api.CStore, "m.q", "m.z")), "m.q", append(cons("q &x"), con(api.CStore, "m.q", "m.z")), ""}, {append(cons("q &x"), con(api.CStore, "m.z", "m.q")), "m.q", append(cons("q &x"), con(api.CStore, "m.z", "m.q")), ""},
		{append(cons("q &x"), api.Con{Op: api.CCall, A: "m@1", B: "m.z", Tag: "p>", Args: []string{"", "m.q"}}), "m.q", append(cons("q &x"), api.Con{Op: api.CCall, A: "m@1", B: "m.z", Tag: "p>", Args: []string{"", "m.q"}}), ""},
		{[]api.Con{con(api.CCopy, "m@1", "m.p"), con(api.CCopy, "m.r", "m@1")}, "m@1", []api.Con{con(api.CCopy, "m@1", "m.p"), con(api.CCopy, "m.r", "m@1")}, ""},
		// a CAddr names a cell as B, as long as it is there
		{[]api.Con{con(api.CCopy, "g+0", "m.p"), con(api.CCopy, "m.r", "g+0"), con(api.CAddr, "m.s", "g+0")}, "g+0", []api.Con{con(api.CCopy, "g+0", "m.p"), con(api.CCopy, "m.r", "g+0"), con(api.CAddr, "m.s", "g+0")}, ""},
		{[]api.Con{con(api.CCopy, "g+0", "m.p"), con(api.CCopy, "m.r", "g+0"), con(api.CAddr, "m.s", "g+0")}, "g+0 m.s", []api.Con{con(api.CCopy, "m.r", "m.p")}, "g+0 m.s"},
		{[]api.Con{con(api.CAddr, "g+0", "g+0"), con(api.CCopy, "m.r", "g+0")}, "g+0", []api.Con{con(api.CAddr, "g+0", "g+0"), con(api.CCopy, "m.r", "g+0")}, ""},
		// again and again, the least first: a makes of two outs of b one, and of c and its like nothing new
		{cons("a p", "b a", "c b", "d c", "e d"), "m.b m.c m.d m.a", cons("e p"), "m.a m.b m.c m.d"},
		{cons("b o", "b p", "x b", "y b", "z b", "z y"), "m.b m.y m.x", cons("z o", "z p"), "m.b m.x m.y"},
		{cons("b o", "b p", "x b", "y b", "z b", "x &g", "y &g"), "m.b m.z", cons("x o", "x p", "y o", "y p", "x &g", "y &g"), "m.b m.z"},
	} {
		s, before := canon(c.cons...), canon(c.cons...)
		got, folded, e := System(s, strings.Fields(c.hide))
		if e != api.OK || !system.Same(got, canon(c.want...)) || strings.Join(folded, " ") != c.folded || !reflect.DeepEqual(s, before) {
			t.Errorf("%d: %v, %v, %v", i, e, got.Cons, folded)
		}
	}
	if s, l, e := System(api.System{Cons: []api.Con{{}}}, nil); e != api.ErrKind || len(l) != 0 || !reflect.DeepEqual(s, api.System{}) {
		t.Errorf("%v", e)
	}
}

// slow folds by the words of the chapter.
func slow(s api.System, hide []string) (api.System, []string) {
	var folded []string
	slices.Sort(hide)
	for i := 0; i < len(hide); i++ {
		x := hide[i]
		var ins, outs, rest []api.Con
		only := true
		for _, c := range s.Cons {
			in, out := c.A == x, c.B == x
			only = only && (!in && !out && !slices.Contains(c.Args, x) || c.Op == api.CCopy && in != out || c.Op == api.CAddr && !out)
			switch {
			case in:
				ins = append(ins, c)
			case out:
				outs = append(outs, c)
			default:
				rest = append(rest, c)
			}
		}
		if !only || len(ins)+len(outs) == 0 || len(ins)*len(outs) > len(ins)+len(outs) {
			continue
		}
		for _, in := range ins {
			for _, out := range outs {
				if in.Op == api.CAddr || in.B != out.A {
					rest = append(rest, con(in.Op, out.A, in.B))
				}
			}
		}
		s.Cons = rest
		s = system.Canon(s)
		folded = append(folded, x)
		i = -1
	}
	slices.Sort(folded)
	return s, folded
}

func TestSlow(t *testing.T) { // 22.1
	count := 0
	for seed := range 600 {
		src := samples.From(seed)
		var l []api.Con
		nodes := []string{"m.a", "m.b", "m.c", "m.d", "g+0", "h+0"}
		for range 4 + src.Next(14) {
			if src.Chance(4) {
				l = append(l, con(api.CAddr, src.Of(nodes), src.Of([]string{"g+0", "h+0", "k+0"})))
			} else {
				l = append(l, con(api.CCopy, src.Of(nodes), src.Of(nodes)))
			}
		}
		s := canon(l...)
		hide := []string{"m.d", "m.b", "g+0", "m.a", "h+0"}[src.Next(3):]
		got, folded, _ := System(s, hide)
		want, wanted := slow(s, slices.Clone(hide))
		if !system.Same(got, want) || !slices.Equal(folded, wanted) {
			t.Errorf("%d: %v, hidden %v: %v, not %v", seed, l, hide, folded, wanted)
		}
		count += len(folded)
	}
	if count < 300 {
		t.Errorf("%d folded: nothing was asked", count)
	}
}

// hidden are nodes of a system that may be hidden from others: none of the face, no place that anybody has, and no Formal of a function that is one.
func hidden(s api.System, f api.Face, facts []api.Fact) []string {
	had := map[string]bool{}
	for _, fact := range facts {
		for _, p := range fact.Locs {
			had[p] = true
		}
	}
	var l []string
	for _, n := range system.Nodes(s) {
		x, _ := names.Read(n)
		obj, _, cell := names.Object(n)
		fn := names.Of(names.Func, x.Fn, "", 0)
		if x.Kind != names.Site && !(cell && (had[n] || slices.Contains(f.Objs, obj))) && !(x.Kind == names.Formal && (had[fn] || slices.Contains(f.Fns, fn))) {
			l = append(l, n)
		}
	}
	return l
}

func TestOthers(t *testing.T) { // 22.2
	count := 0
	for seed := range 600 {
		s := samples.System(seed)
		f := samples.Face(seed, s)
		o := samples.Other(seed, s, f)
		whole, _ := system.Union([]api.System{s, o})
		before, _ := least.Facts(whole)
		x, folded, e := System(s, hidden(s, f, before))
		if e != api.OK || system.Check(x) != api.OK || len(x.Cons) > len(s.Cons) {
			t.Fatalf("%d: %v, %d constraints of %d", seed, e, len(x.Cons), len(s.Cons))
		}
		count += len(folded)
		all, _ := system.Union([]api.System{x, o})
		after, _ := least.Facts(all)
		for _, fact := range before {
			if !slices.Contains(folded, fact.Node) && !slices.Equal(fact.Locs, least.Of(after, fact.Node)) {
				t.Errorf("%d: %s had %v, has %v", seed, fact.Node, fact.Locs, least.Of(after, fact.Node))
			}
		}
		if !least.Within(after, before) {
			t.Errorf("%d: there is more", seed)
		}
	}
	if count < 300 {
		t.Errorf("%d folded: nothing was asked", count)
	}
}

func TestLong(t *testing.T) { // P1
	for _, up := range []int{1, -1} {
		var l, hide []string
		for i := range 6000 {
			at := 20000 + up*i
			l = append(l, "v"+strconv.Itoa(at+up)+" v"+strconv.Itoa(at))
			hide = append(hide, "m.v"+strconv.Itoa(at))
		}
		s, folded, e := System(canon(cons(l...)...), hide)
		if e != api.OK || len(s.Cons) != 0 || len(folded) != 6000 {
			t.Errorf("%v, %d left, %d folded", e, len(s.Cons), len(folded))
		}
	}
}
