package cache

import (
	"reflect"
	"strconv"
	"strings"
	"testing"

	"weft/api"
	"weft/parse"
	"weft/samples"
	"weft/show"
	"weft/summary"
)

func text(t *testing.T, seed int) string {
	t.Helper()
	s, e := show.Module(samples.Module(seed))
	if e != api.OK {
		t.Fatal(e)
	}
	return s
}

func TestMade(t *testing.T) { // 33.1
	for _, less := range []bool{false, true} {
		s := text(t, 1)
		m, _, _ := parse.Module(s)
		want, _ := summary.Of(m, less)
		if got, e := Made(s, less); e != api.OK || !summary.Same(got, want) {
			t.Errorf("%v", e)
		}
		for s, want := range map[string]api.Errno{"": api.ErrShort, "module m; fn f() { p = null; }": api.ErrNone, "module m; $": api.ErrLine, "module m; x": api.ErrLine} {
			if got, e := Made(s, less); e != want || !reflect.DeepEqual(got, api.Summary{}) {
				t.Errorf("%q: %v", s, e)
			}
		}
	}
}

func TestGet(t *testing.T) { // 33.2
	var c Cache
	s := text(t, 2)
	if c.Has(s, true) || c.Len() != 0 {
		t.Error("the zero Cache has some")
	}
	for i, want := range []struct {
		text string
		less bool
		was  bool
		len  int
	}{{s, true, false, 1}, {s, true, true, 1}, {s, false, false, 2}, {s, true, true, 2}, {s + " ", true, false, 3}, {s, false, true, 3}} {
		if c.Has(want.text, want.less) != want.was {
			t.Errorf("%d: Has", i)
		}
		got, was, e := c.Get(want.text, want.less)
		made, _ := Made(want.text, want.less)
		if e != api.OK || was != want.was || c.Len() != want.len || !summary.Same(got, made) {
			t.Errorf("%d: %v, %v, %d", i, e, was, c.Len())
		}
		if !c.Has(want.text, want.less) {
			t.Errorf("%d: Has", i)
		}
	}
	if got, was, e := c.Get("module", true); e != api.ErrShort || was || !reflect.DeepEqual(got, api.Summary{}) || c.Len() != 3 || c.Has("module", true) {
		t.Errorf("%v, %v", was, e)
	}
	var none *Cache
	if got, was, e := none.Get(s, true); e != api.ErrNone || was || !reflect.DeepEqual(got, api.Summary{}) || none.Has(s, true) || none.Len() != 0 {
		t.Errorf("%v, %v", was, e)
	}
}

func TestFirstGoes(t *testing.T) { // 33.2
	var c Cache
	name := func(i int) string { return "module m" + strconv.Itoa(i) + ";" }
	for i := range 12 {
		c.Get(name(i), false)
	}
	c.Get(name(0), false) // that it was asked for again is no matter
	c.Get("module", false)
	if c.Len() != 12 || !c.Has(name(0), false) {
		t.Errorf("%d", c.Len())
	}
	c.Get(name(12), false)
	if c.Len() != 12 || c.Has(name(0), false) || !c.Has(name(1), false) || !c.Has(name(12), false) {
		t.Errorf("%d", c.Len())
	}
	c.Get(name(0), true)
	if c.Len() != 12 || c.Has(name(1), false) || !c.Has(name(0), true) || c.Has(name(0), false) {
		t.Errorf("%d", c.Len())
	}
}

func TestCopies(t *testing.T) { // 33.2, 33.3
	var c Cache
	s := "module m; struct S { a ptr; } extern fn e(); global g struct S; fn f(p ptr) { var q ptr; icall p(q); }"
	for range 3 {
		got, _, _ := c.Get(s, false)
		want, _ := Made(s, false)
		if !summary.Same(got, want) {
			t.Fatal("what is kept was changed from outside")
		}
		got.Gives[0], got.Wants[0], got.Keeps[0], got.System.Objs[0].Marks[0].Tag, got.System.Fns[0].Name, got.System.Cons[0].Args[0] = "?", "?", "?", "?", "?", "?"
	}
}

func TestFollows(t *testing.T) { // 33.3
	var c Cache
	src := samples.From(3)
	for range 200 {
		s := text(t, src.Next(10))
		if src.Chance(6) {
			s = strings.Replace(s, "ptr", "int", 1)
		}
		less := src.Chance(2)
		got, _, e := c.Get(s, less)
		want, e2 := Made(s, less)
		if e != e2 || !summary.Same(got, want) {
			t.Errorf("%v, %v", e, e2)
		}
	}
}
