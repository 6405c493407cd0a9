package link

import (
	"reflect"
	"slices"
	"testing"

	"weft/api"
	"weft/least"
	"weft/lower"
	"weft/parse"
	"weft/samples"
	"weft/solve"
	"weft/sumfile"
	"weft/summary"
	"weft/system"
)

func sum(t *testing.T, s string, less bool) api.Summary {
	t.Helper()
	m, line, e := parse.Module(s)
	if e != api.OK {
		t.Fatalf("line %d: %v of %s", line, e, s)
	}
	x, e := summary.Of(m, less)
	if e != api.OK {
		t.Fatalf("%v of %s", e, s)
	}
	return x
}

const (
	giver  = "module m; fn id(p ptr) ptr { return p; }"
	wanter = "module n; extern fn id(ptr) ptr; global g ptr; fn f() { var p ptr; p = addr g; p = call id(p); icall p(); p = addr id; p = icall p(p); }"
)

func TestSystemKeeps(t *testing.T) { // 29.1
	l := []api.Summary{sum(t, wanter, false), sum(t, giver, false)}
	s, e := System(l)
	want, _ := system.Union([]api.System{l[0].System, l[1].System})
	if e != api.OK || !system.Same(s, want) {
		t.Errorf("%v, %v", e, s)
	}
	if k := Keeps(l); !slices.Equal(k, []string{"f$0", "f.p", "f@3", "f@5", "g+0", "id$0", "id$1"}) {
		t.Errorf("%v", k)
	}
	for i, c := range []struct {
		l []api.Summary
		e api.Errno
	}{{nil, api.OK}, {l[:1], api.ErrNone}, {append(l, l[0]), api.ErrTwice}, {make([]api.Summary, 9), api.ErrFull}, {[]api.Summary{many("a"), many("b")}, api.ErrFull}, {[]api.Summary{many("a")}, api.OK}} {
		if s, e := System(c.l); e != c.e || e != api.OK && !reflect.DeepEqual(s, api.System{}) {
			t.Errorf("%d: %v, not %v", i, e, c.e)
		}
	}
	if len(Keeps(nil)) != 0 {
		t.Error("keeps of none")
	}
}

// many has more objects than half a system.
func many(name string) api.Summary {
	s := api.Summary{Name: name}
	for i := range 301 {
		s.System.Objs = append(s.System.Objs, api.Obj{Name: name + string(rune('A'+i/26)) + string(rune('a'+i%26)), Kinds: "i"})
	}
	s.System = system.Canon(s.System)
	return s
}

func TestFacts(t *testing.T) { // 29.2
	for _, less := range []bool{false, true} {
		l := []api.Summary{sum(t, wanter, less), sum(t, giver, less)}
		s, _ := System(l)
		facts, taken, e := Facts(l, solve.Enough(s), nil)
		all, want, _ := solve.Facts(s, solve.Enough(s), nil)
		if e != api.OK || taken != want || !least.Same(facts, least.Only(all, Keeps(l))) {
			t.Errorf("%v, %d", e, taken)
		}
		if got := least.Of(facts, "id$1"); !slices.Contains(got, "g+0") {
			t.Errorf("%v", got)
		}
		if got := least.Of(facts, "f@5"); !slices.Equal(got, []string{"id()"}) {
			t.Errorf("%v", got)
		}
		for fuel, want := range map[int]api.Errno{-1: api.ErrRange, taken - 1: api.ErrFuel, taken: api.OK} {
			facts, n, e := Facts(l, fuel, nil)
			if e != want || e != api.OK && (n != 0 || len(facts) != 0) {
				t.Errorf("%d: %v, %d", fuel, e, n)
			}
		}
		if _, _, e := Facts(l[:1], -1, nil); e != api.ErrNone {
			t.Errorf("%v", e)
		}
	}
}

func TestFiles(t *testing.T) { // 29.3
	l := []api.Summary{sum(t, wanter, true), sum(t, giver, true)}
	a, _ := sumfile.Encode(l[0])
	b, _ := sumfile.Encode(l[1])
	want, taken, _ := Facts(l, 1000, []int{3, 4})
	if got, n, e := Files([]string{a, b}, 1000, []int{3, 4}); e != api.OK || n != taken || !least.Same(got, want) {
		t.Errorf("%v, %d", e, n)
	}
	for i, c := range []struct {
		l    []string
		fuel int
		e    api.Errno
	}{{[]string{a, b + "x"}, -1, api.ErrSum}, {[]string{a}, -1, api.ErrNone}, {[]string{a, b, b}, 0, api.ErrTwice}, {[]string{a, b}, -1, api.ErrRange}, {[]string{a, b}, 0, api.ErrFuel}, {nil, 0, api.OK}} {
		if got, n, e := Files(c.l, c.fuel, nil); e != c.e || n != 0 || len(got) != 0 {
			t.Errorf("%d: %v, not %v", i, e, c.e)
		}
	}
}

// pair are two modules that have nothing in common but what they give and want: what one of them has extern the other one gives.
func pair(seed int) (api.Module, api.Module) {
	a := samples.Module(seed)
	b := samples.Program(seed)
	b.Name = "other"
	given := func(name string) bool {
		return slices.ContainsFunc(a.Externs, func(x api.Extern) bool { return x.Name == name })
	}
	static := func(name string) bool {
		return slices.ContainsFunc(a.Funcs, func(f api.Func) bool { return f.Name == name && f.Static }) || slices.ContainsFunc(a.Globals, func(g api.Global) bool { return g.Name == name && g.Static })
	}
	var funcs []api.Func
	for _, f := range b.Funcs {
		x := api.Extern{Name: f.Name, Fn: true, Ret: f.Ret}
		for _, p := range f.Params {
			x.Params = append(x.Params, p.Kind)
		}
		f.Body = slices.DeleteFunc(f.Body, func(s api.Stmt) bool { // a's own are nothing that b may name
			return names(s, static)
		})
		if given(f.Name) {
			funcs = append(funcs, f)
		} else if !static(f.Name) {
			b.Externs = append(b.Externs, x)
		}
	}
	b.Funcs = funcs
	var globals []api.Global
	for _, g := range b.Globals {
		if given(g.Name) {
			globals = append(globals, g)
		} else if !static(g.Name) {
			b.Externs = append(b.Externs, api.Extern{Name: g.Name, Type: g.Type})
		}
	}
	b.Globals = globals
	return a, b
}

// names tells whether a statement names something as what is called, or has an address.
func names(s api.Stmt, is func(string) bool) bool {
	within := func(s api.Stmt) bool { return names(s, is) }
	return (s.Op == api.Addr || s.Op == api.Call) && is(s.A) || slices.ContainsFunc(s.Then, within) || slices.ContainsFunc(s.Else, within)
}

func TestFollows(t *testing.T) { // 29.4, W1
	count := 0
	for seed := range 250 {
		a, b := pair(seed)
		sa, e := lower.Module(a)
		sb, e2 := lower.Module(b)
		if e != api.OK || e2 != api.OK {
			t.Fatalf("%d: %v, %v", seed, e, e2)
		}
		whole, e := system.Union([]api.System{sa, sb})
		want, e2 := least.Facts(whole)
		if e != api.OK || e2 != api.OK {
			t.Fatalf("%d: %v, %v", seed, e, e2)
		}
		for turn := range 4 {
			x, _ := summary.Of(a, turn&1 == 0)
			y, _ := summary.Of(b, turn&2 == 0)
			l := []api.Summary{x, y}
			if seed%2 == 0 {
				slices.Reverse(l)
			}
			s, e := System(l)
			got, taken, e2 := Facts(l, solve.Enough(s), samples.From(seed).Numbers(turn*20))
			if e != api.OK || e2 != api.OK || !least.Same(got, least.Only(want, Keeps(l))) {
				t.Errorf("%d, %d: %v, %v\n%v\n%v", seed, turn, e, e2, got, least.Only(want, Keeps(l)))
			}
			if got, _, e := Facts(l, taken-1, samples.From(seed).Numbers(turn*20)); taken > 0 && (e != api.ErrFuel || len(got) != 0) {
				t.Errorf("%d: %v", seed, e)
			}
			count += len(got)
		}
	}
	if count < 3000 {
		t.Errorf("%d facts: nothing was asked", count)
	}
}
