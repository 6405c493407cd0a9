package space

import (
	"slices"
	"strconv"
	"strings"
	"testing"

	"weft/api"
	"weft/least"
	"weft/link"
	"weft/lower"
	"weft/parse"
	"weft/query"
	"weft/samples"
	"weft/show"
	"weft/solve"
	"weft/split"
	"weft/sumfile"
	"weft/summary"
)

const (
	giver  = "module m; fn id(p ptr) ptr { return p; } fn dead() { call dead(); }"
	wanter = "module n; extern fn id(ptr) ptr; global g ptr; fn f() { var p ptr; p = addr g; store p p; p = call id(p); p = addr id; p = icall p(p); }"
	fuel   = 100000
)

func file(t *testing.T, text string, less bool) string {
	t.Helper()
	m, _, e := parse.Module(text)
	if e != api.OK {
		t.Fatal(e)
	}
	s, _ := summary.Of(m, less)
	b, e := sumfile.Encode(s)
	if e != api.OK {
		t.Fatal(e)
	}
	return b
}

func want(t *testing.T, what string, got, want api.Errno) {
	t.Helper()
	if got != want {
		t.Errorf("%s: %v, not %v", what, got, want)
	}
}

func TestModules(t *testing.T) { // 34.1
	s := New(false)
	want(t, "add", s.Add(giver), api.OK)
	want(t, "short", s.Add("module"), api.ErrShort)
	want(t, "ill formed", s.Add("module m; fn f() { p = null; }"), api.ErrNone)
	want(t, "twice", s.Add("module m;"), api.ErrTwice)
	want(t, "load twice", s.Load(file(t, giver, true)), api.ErrTwice)
	want(t, "load no file", s.Load(file(t, giver, true)+"x"), api.ErrSum)
	want(t, "load", s.Load(file(t, wanter, true)), api.OK)
	want(t, "replace none", s.Replace("x", "module"), api.ErrNone)
	want(t, "replace short", s.Replace("m", "module"), api.ErrShort)
	want(t, "replace name", s.Replace("m", "module x;"), api.ErrName)
	want(t, "remove none", s.Remove("x"), api.ErrNone)
	if l := s.Names(); !slices.Equal(l, []string{"m", "n"}) {
		t.Errorf("%v", l)
	}
	want(t, "replace", s.Replace("m", "module m;"), api.OK)
	for i := range 6 {
		want(t, "more", s.Add("module a"+strconv.Itoa(i)+";"), api.OK)
	}
	want(t, "full", s.Add("module b;"), api.ErrFull)
	want(t, "twice ahead of full", s.Add("module m;"), api.ErrTwice)
	want(t, "load full", s.Load(file(t, "module b;", false)), api.ErrFull)
	want(t, "replace in full", s.Replace("a5", "module a5; global g int;"), api.OK)
	want(t, "remove", s.Remove("n"), api.OK)
	want(t, "remove", s.Remove("a2"), api.OK)
	if l := s.Names(); !slices.Equal(l, []string{"m", "a0", "a1", "a3", "a4", "a5"}) {
		t.Errorf("%v", l)
	}
	if l := New(true).Names(); len(l) != 0 {
		t.Errorf("%v", l)
	}
}

func TestLink(t *testing.T) { // 34.2
	s := New(false)
	if _, e := s.Facts(); e != api.ErrState {
		t.Errorf("%v", e)
	}
	want(t, "link of none", s.Link(0, nil), api.OK)
	if l, e := s.Facts(); e != api.OK || len(l) != 0 {
		t.Errorf("%v, %v", l, e)
	}
	s.Add(wanter)
	if _, e := s.Facts(); e != api.ErrState {
		t.Errorf("%v", e)
	}
	want(t, "link", s.Link(fuel, nil), api.ErrNone)
	s.Add(giver)
	want(t, "fuel", s.Link(0, nil), api.ErrFuel)
	want(t, "fuel", s.Link(-1, nil), api.ErrRange)
	if _, e := s.Facts(); e != api.ErrState {
		t.Errorf("%v", e)
	}
	want(t, "link", s.Link(fuel, []int{1, 2}), api.OK)
	l, e := s.Facts()
	if e != api.OK || len(l) == 0 {
		t.Fatal(e)
	}
	want(t, "fuel", s.Link(0, nil), api.ErrFuel) // nothing changes: it is linked still
	l[0].Locs[0] = "?"
	again, e := s.Facts()
	if e != api.OK || again[0].Locs[0] == "?" {
		t.Errorf("%v, %v", e, again)
	}
	for i, change := range []func() api.Errno{func() api.Errno { return s.Replace("m", giver) }, func() api.Errno { return s.Add("module x;") }, func() api.Errno { return s.Remove("x") }, func() api.Errno { return s.Load(file(t, "module x;", true)) }} {
		want(t, "change", change(), api.OK)
		if _, e := s.Facts(); e != api.ErrState {
			t.Errorf("%d: %v", i, e)
		}
		want(t, "link", s.Link(fuel, nil), api.OK)
	}
	for i, change := range []func() api.Errno{func() api.Errno { return s.Replace("m", "") }, func() api.Errno { return s.Add(giver) }, func() api.Errno { return s.Remove("y") }, func() api.Errno { return s.Load("") }} {
		if change() == api.OK {
			t.Errorf("%d: no error", i)
		}
		if _, e := s.Facts(); e != api.OK {
			t.Errorf("%d: %v", i, e)
		}
	}
}

func TestAsk(t *testing.T) { // 34.3
	s := New(false)
	s.Add(wanter)
	s.Add(giver)
	ask := func() []api.Errno {
		_, a := s.Points("f.p")
		_, b := s.Alias("f.p", "g+0")
		_, c := s.Callees("f@5")
		_, d := s.Reach([]string{"f"})
		return []api.Errno{a, b, c, d}
	}
	if l := ask(); !slices.Equal(l, []api.Errno{18, 18, 18, 18}) {
		t.Errorf("%v", l)
	}
	want(t, "link", s.Link(fuel, nil), api.OK)
	if l := ask(); !slices.Equal(l, []api.Errno{0, 0, 0, 0}) {
		t.Errorf("%v", l)
	}
	facts, _ := s.Facts()
	if l, _ := s.Points("f.p"); len(l) == 0 || !slices.Equal(l, least.Of(facts, "f.p")) {
		t.Errorf("%v", l)
	}
	if l, _ := s.Points("zz"); len(l) != 0 {
		t.Errorf("%v", l)
	}
	if x, _ := s.Alias("f.p", "g+0"); !x {
		t.Error("no alias")
	}
	if x, _ := s.Alias("f.p", "zz"); x {
		t.Error("alias")
	}
	if l, _ := s.Callees("f@5"); !slices.Equal(l, []string{"id"}) {
		t.Errorf("%v", l)
	}
	if l, _ := s.Reach([]string{"f"}); !slices.Equal(l, []string{"f", "id"}) {
		t.Errorf("%v", l)
	}
	s.Load(file(t, "module x;", false))
	s.Link(fuel, nil)
	if l := ask(); !slices.Equal(l, []api.Errno{0, 0, 0, api.ErrKind}) {
		t.Errorf("%v", l)
	}
	s.Remove("x")
	if l := ask(); !slices.Equal(l, []api.Errno{18, 18, 18, 18}) {
		t.Errorf("%v", l)
	}
}

func TestNil(t *testing.T) { // 34.1, P1
	var s *Space
	for _, e := range []api.Errno{s.Add(giver), s.Load(""), s.Replace("", ""), s.Remove(""), s.Link(-1, nil)} {
		want(t, "nil", e, api.ErrState)
	}
	_, a := s.Facts()
	_, b := s.Points("")
	_, c := s.Alias("", "")
	_, d := s.Callees("")
	_, e := s.Reach(nil)
	if len(s.Names()) != 0 || !slices.Equal([]api.Errno{a, b, c, d, e}, []api.Errno{18, 18, 18, 18, 18}) {
		t.Errorf("%v, %v, %v, %v, %v", a, b, c, d, e)
	}
	zero := &Space{}
	want(t, "zero", zero.Add(giver), api.OK)
}

// model is a workspace's modules by what they were made of.
type model struct {
	name, text string
	file       string
}

// anew is what all come to, made anew.
func anew(l []model, less bool) ([]api.Fact, api.Errno) {
	var sums []api.Summary
	for _, m := range l {
		if m.file != "" {
			s, _ := sumfile.Decode(m.file)
			sums = append(sums, s)
			continue
		}
		x, _, _ := parse.Module(m.text)
		s, _ := summary.Of(x, less)
		sums = append(sums, s)
	}
	s, e := link.System(sums)
	if e != api.OK {
		return nil, e
	}
	facts, _, e := solve.Facts(s, solve.Enough(s), nil)
	return least.Only(facts, link.Keeps(sums)), e
}

func TestAnew(t *testing.T) { // 34.4, W4
	for seed := range 40 {
		src := samples.From(seed)
		less := src.Chance(2)
		var texts []string
		for _, program := range []int{seed, seed, seed + 100} { // the same one parted twice, and another one
			parts, e := split.Modules(samples.Program(program), src.Numbers(9), 3)
			if e != api.OK {
				t.Fatal(e)
			}
			for _, m := range parts {
				text, _ := show.Module(m)
				texts = append(texts, text)
			}
		}
		s := New(less)
		var l []model
		linked := 0
		for range 60 {
			text := src.Of(texts)
			name := strings.Fields(text)[1]
			name = strings.TrimSuffix(name, ";")
			at := slices.IndexFunc(l, func(m model) bool { return m.name == name })
			switch src.Next(6) {
			case 0:
				if e := s.Add(text); (e == api.OK) != (at < 0) {
					t.Errorf("%d: add: %v", seed, e)
				}
				if at < 0 {
					l = append(l, model{name: name, text: text})
				}
			case 1:
				b := file(t, text, !less)
				if e := s.Load(b); (e == api.OK) != (at < 0) {
					t.Errorf("%d: load: %v", seed, e)
				}
				if at < 0 {
					l = append(l, model{name: name, file: b})
				}
			case 2:
				if e := s.Replace(name, text); (e == api.OK) != (at >= 0) {
					t.Errorf("%d: replace: %v", seed, e)
				}
				if at >= 0 {
					l[at] = model{name: name, text: text}
				}
			case 3:
				if src.Chance(3) {
					s.Remove(name)
					l = slices.DeleteFunc(l, func(m model) bool { return m.name == name })
				}
			default:
				facts, e := anew(l, less)
				if got := s.Link(1<<40, src.Numbers(20)); got != e {
					t.Errorf("%d: %v, not %v", seed, got, e)
				}
				if e != api.OK {
					continue
				}
				linked++
				got, _ := s.Facts()
				if !least.Same(got, facts) {
					t.Errorf("%d: not as if made anew", seed)
				}
				for _, f := range facts {
					if l, _ := s.Points(f.Node); !slices.Equal(l, f.Locs) {
						t.Errorf("%d: %s", seed, f.Node)
					}
				}
			}
		}
		if linked == 0 && seed == 0 {
			t.Errorf("%d: never linked", seed)
		}
	}
}

func TestWhole(t *testing.T) { // 34.4: as if all were solved as a whole
	for seed := range 60 {
		m := samples.Program(seed)
		src := samples.From(seed)
		parts, _ := split.Modules(m, src.Numbers(9), 3)
		s := New(src.Chance(2))
		for _, x := range parts {
			text, _ := show.Module(x)
			want(t, "add", s.Add(text), api.OK)
		}
		want(t, "link", s.Link(1<<40, nil), api.OK)
		whole, _ := lower.Module(m)
		facts, _ := least.Facts(whole)
		got, _ := s.Facts()
		for _, f := range got {
			if !slices.Equal(f.Locs, least.Of(facts, f.Node)) {
				t.Errorf("%d: %v", seed, f)
			}
		}
		calls, _ := query.Calls([]api.Module{m}, facts)
		if l, e := s.Reach([]string{"main"}); e != api.OK || !slices.Equal(l, query.Reach(calls, []string{"main"})) {
			t.Errorf("%d: %v, %v", seed, l, e)
		}
	}
}
