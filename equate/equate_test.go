package equate

import (
	"reflect"
	"slices"
	"strconv"
	"strings"
	"testing"

	"weft/api"
	"weft/least"
	"weft/names"
	"weft/samples"
	"weft/system"
)

func con(op int, a, b string) api.Con { return api.Con{Op: op, A: a, B: b} }

func canon(cons ...api.Con) api.System { return system.Canon(api.System{Cons: cons}) }

func copies(l ...string) []api.Con {
	var cons []api.Con
	for _, s := range l {
		a, b, _ := strings.Cut(s, " ")
		cons = append(cons, con(api.CCopy, "m."+a, "m."+b))
	}
	return cons
}

func TestSystem(t *testing.T) { // 21.1
	call := api.Con{Op: api.CCall, A: "m@1", B: "m.q", Tag: "pp>p", Args: []string{"m.q", "m.q", "m.p"}}
	for i, c := range []struct {
		cons  []api.Con
		hide  string
		want  []api.Con
		swaps string
	}{
		{copies("q p", "r q"), "m.q m.r", nil, "m.q m.p m.r m.p"}, // the example
		{copies("q p", "r q"), "m.r m.p m.r junk m@1 g", copies("q p"), "m.r m.q"},
		{copies("p p", "q p"), "", copies("q p"), ""},
		{copies("a b", "b c", "c a"), "m.a m.b m.c", nil, "m.b m.a m.c m.a"},
		{copies("a b", "b c", "c a"), "m.a m.b", nil, "m.a m.c m.b m.c"},
		{copies("a b", "b c", "c a"), "m.a", copies("b c", "c b"), "m.a m.b"},
		{copies("a b", "b c", "c a"), "", copies("a b", "b c", "c a"), ""},
		{copies("a b", "b a", "x a", "y b", "z x", "z y"), "m.a m.b m.x m.y m.z", nil, "m.b m.a m.x m.a m.y m.a m.z m.a"},
		// fed twice, or by something else than a CCopy
		{append(copies("q p"), con(api.CAddr, "m.q", "g+0")), "m.q", append(copies("q p"), con(api.CAddr, "m.q", "g+0")), ""},
		{copies("q p", "q r"), "m.q", copies("q p", "q r"), ""}, {[]api.Con{con(api.CLoad, "m.q", "m.p")}, "m.q", []api.Con{con(api.CLoad, "m.q", "m.p")}, ""},
		{append(copies("q p"), call), "m.q", append(copies("q p"), call), ""},
		// a CStore feeds not: A, B, Args are swapped, the place of a CAddr is not
		{append(copies("q p"), con(api.CStore, "m.q", "m.q"), con(api.CLoad, "m.x", "m.q"), api.Con{Op: api.CField, A: "m.x", B: "m.q", K: 1, Tag: "S"}, api.Con{Op: api.CCall, A: "m@1", B: "m.q", Tag: "pp>", Args: []string{"", "m.q", "m.x"}}), "m.q",
			[]api.Con{con(api.CStore, "m.p", "m.p"), con(api.CLoad, "m.x", "m.p"), {Op: api.CField, A: "m.x", B: "m.p", K: 1, Tag: "S"}, {Op: api.CCall, A: "m@1", B: "m.p", Tag: "pp>", Args: []string{"", "m.p", "m.x"}}}, "m.q m.p"},
		{[]api.Con{con(api.CCopy, "g+0", "m.p"), con(api.CAddr, "m.x", "g+0"), con(api.CStore, "g+0", "m.x")}, "g+0", []api.Con{con(api.CAddr, "m.x", "g+0"), con(api.CStore, "m.p", "m.x")}, "g+0 m.p"},
		{[]api.Con{con(api.CCopy, "m@1", "m.p")}, "m@1", []api.Con{con(api.CCopy, "m@1", "m.p")}, ""},
		// what falls together feeds once
		{append(copies("q p", "r p", "z q", "z r"), con(api.CLoad, "m.x", "m.z")), "m.q m.r m.z", []api.Con{con(api.CLoad, "m.x", "m.p")}, "m.q m.p m.r m.p m.z m.p"},
	} {
		s := canon(c.cons...)
		before := canon(c.cons...)
		got, swaps, e := System(s, strings.Fields(c.hide))
		var l []string
		for _, x := range swaps {
			l = append(l, x.From, x.To)
		}
		if e != api.OK || !system.Same(got, canon(c.want...)) || strings.Join(l, " ") != c.swaps || !reflect.DeepEqual(s, before) {
			t.Errorf("%d: %v, %v, %v", i, e, got.Cons, swaps)
		}
	}
	if s, l, e := System(api.System{Cons: []api.Con{{}}}, nil); e != api.ErrKind || len(l) != 0 || !reflect.DeepEqual(s, api.System{}) {
		t.Errorf("%v", e)
	}
	whole := samples.System(5)
	if s, _, _ := System(whole, nil); !reflect.DeepEqual(s.Objs, whole.Objs) || !reflect.DeepEqual(s.Fns, whole.Fns) {
		t.Error("objects, functions")
	}
}

// hidden are nodes of a system that may be hidden from others: none of the face, no place that anybody has, and no Formal of a function that is one.
func hidden(seed int, s api.System, f api.Face, facts []api.Fact) []string {
	had := map[string]bool{}
	for _, fact := range facts {
		for _, p := range fact.Locs {
			had[p] = true
		}
	}
	src := samples.From(seed)
	var l []string
	for _, n := range system.Nodes(s) {
		x, _ := names.Read(n)
		obj, _, cell := names.Object(n)
		fn := names.Of(names.Func, x.Fn, "", 0)
		if x.Kind == names.Site || cell && (had[n] || slices.Contains(f.Objs, obj)) || x.Kind == names.Formal && (had[fn] || slices.Contains(f.Fns, fn)) || src.Chance(4) {
			continue
		}
		l = append(l, n)
	}
	return l
}

func TestOthers(t *testing.T) { // 21.2
	swapped := 0
	for seed := range 600 {
		s := samples.System(seed)
		f := samples.Face(seed, s)
		o := samples.Other(seed, s, f)
		whole, _ := system.Union([]api.System{s, o})
		before, _ := least.Facts(whole)
		x, swaps, e := System(s, hidden(seed, s, f, before))
		if e != api.OK || system.Check(x) != api.OK {
			t.Fatalf("%d: %v", seed, e)
		}
		all, e := system.Union([]api.System{x, o})
		after, _ := least.Facts(all)
		if e != api.OK {
			t.Fatalf("%d: %v", seed, e)
		}
		in := map[string]string{}
		for _, w := range swaps {
			in[w.From] = w.To
			swapped++
		}
		for _, n := range slices.Concat(system.Nodes(whole), []string{"f$0", "f$1", "w$0", "w$1"}) {
			to := n
			if in[n] != "" {
				to = in[n]
			}
			if !slices.Equal(least.Of(before, n), least.Of(after, to)) {
				t.Errorf("%d: %s had %v, %s has %v", seed, n, least.Of(before, n), to, least.Of(after, to))
			}
		}
	}
	if swapped < 100 {
		t.Errorf("%d swaps: nothing was asked", swapped)
	}
}

func TestLong(t *testing.T) { // P1
	for _, up := range []bool{true, false} {
		var cons []api.Con
		var hide []string
		name := func(i int) string { return "m.v" + strconv.Itoa(10000+i) }
		for i := range 6000 {
			a, b := name(i+1), name(i)
			if up {
				a, b = b, a
			}
			cons = append(cons, con(api.CCopy, a, b))
			hide = append(hide, a)
		}
		s, swaps, e := System(canon(cons...), hide)
		if e != api.OK || len(s.Cons) != 0 || len(swaps) != 6000 {
			t.Errorf("%v, %d left, %d swaps", e, len(s.Cons), len(swaps))
		}
	}
}

// slow does what the chapter's words say, step by step.
func slow(s api.System, hide []string) (api.System, map[string]string) {
	hidden := map[string]bool{}
	for _, h := range hide {
		hidden[h] = !strings.Contains(h, "@")
	}
	in := map[string]string{}
	swap := func(from, to string) {
		for i, c := range s.Cons {
			s.Cons[i] = swapped(c, from, to)
		}
		s.Cons = slices.DeleteFunc(s.Cons, func(c api.Con) bool { return c.Op == api.CCopy && c.A == c.B })
		s = system.Canon(s)
		for n, x := range in {
			if x == from {
				in[n] = to
			}
		}
		in[from] = to
	}
	s = system.Canon(s)
	s.Cons = slices.DeleteFunc(s.Cons, func(c api.Con) bool { return c.Op == api.CCopy && c.A == c.B })
	leads := map[string]map[string]bool{} // over one CCopy or more
	for range 8 {
		for _, c := range s.Cons {
			if c.Op != api.CCopy {
				continue
			}
			if leads[c.B] == nil {
				leads[c.B] = map[string]bool{}
			}
			leads[c.B][c.A] = true
			for to := range leads[c.A] {
				leads[c.B][to] = true
			}
		}
	}
	nodes := system.Nodes(s)
	for _, least := range nodes { // rising: the least of each part comes first
		part := slices.DeleteFunc(slices.Clone(nodes), func(n string) bool { return n != least && !(leads[n][least] && leads[least][n]) })
		if part[0] != least {
			continue
		}
		to := least
		if i := slices.IndexFunc(part, func(n string) bool { return !hidden[n] }); i >= 0 {
			to = part[i]
		}
		for _, n := range part {
			if hidden[n] && n != to {
				swap(n, to)
			}
		}
	}
	for i := 0; i < len(nodes); i++ {
		var feeds []api.Con
		for _, c := range s.Cons {
			if slices.Contains(fed(c), nodes[i]) {
				feeds = append(feeds, c)
			}
		}
		if hidden[nodes[i]] && len(feeds) == 1 && feeds[0].Op == api.CCopy {
			swap(nodes[i], feeds[0].B)
			i = -1
		}
	}
	return system.Canon(s), in
}

func TestSlow(t *testing.T) { // 21.1
	count := 0
	for seed := range 600 {
		s := samples.System(seed)
		src := samples.From(seed)
		hide := slices.DeleteFunc(system.Nodes(s), func(string) bool { return src.Chance(4) })
		got, swaps, e := System(s, hide)
		want, in := slow(s, hide)
		if e != api.OK || !system.Same(got, want) || len(swaps) != len(in) {
			t.Errorf("%d: %v\n%v\n%v", seed, e, got.Cons, want.Cons)
		}
		for _, x := range swaps {
			if in[x.From] != x.To {
				t.Errorf("%d: %v, not %s", seed, x, in[x.From])
			}
		}
		count += len(swaps)
	}
	if count < 300 {
		t.Errorf("%d swaps: nothing was asked", count)
	}
}
