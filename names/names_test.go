package names

import (
	"testing"

	"weft/api"
)

// all are nodes that may be, with their texts.
func all() map[string]Node {
	return map[string]Node{
		"f.x":            {Kind: Var, Fn: "f", Name: "x", Cell: -1},
		"f~3.p":          {Kind: Var, Fn: "f", Copy: 3, Name: "p", Cell: -1},
		"f$0":            {Kind: Formal, Fn: "f", Cell: -1},
		"f$268435456":    {Kind: Formal, Fn: "f", N: api.MaxCount, Cell: -1},
		"f~268435456$1":  {Kind: Formal, Fn: "f", Copy: api.MaxCount, N: 1, Cell: -1},
		"f@1":            {Kind: Site, Fn: "f", N: 1, Cell: -1},
		"f~1@20":         {Kind: Site, Fn: "f", Copy: 1, N: 20, Cell: -1},
		"f()":            {Kind: Func, Fn: "f", Cell: -1},
		"f~2()":          {Kind: Func, Fn: "f", Copy: 2, Cell: -1},
		"g":              {Kind: Global, Name: "g", Cell: -1},
		"g+0":            {Kind: Global, Name: "g"},
		"g+268435456":    {Kind: Global, Name: "g", Cell: api.MaxCount},
		"f%x":            {Kind: Stack, Fn: "f", Name: "x", Cell: -1},
		"f%x+2":          {Kind: Stack, Fn: "f", Name: "x", Cell: 2},
		"f~7%x+0":        {Kind: Stack, Fn: "f", Copy: 7, Name: "x"},
		"f#1":            {Kind: Heap, Fn: "f", N: 1, Cell: -1},
		"f~1#12+13":      {Kind: Heap, Fn: "f", Copy: 1, N: 12, Cell: 13},
		"_a.b1234567890": {Kind: Var, Fn: "_a", Name: "b1234567890", Cell: -1},
		"addr.call":      {Kind: Var, Fn: "addr", Name: "call", Cell: -1},
	}
}

func TestBothWays(t *testing.T) { // 14.1, 14.3
	for s, n := range all() {
		if got, e := Text(n); got != s || e != api.OK {
			t.Errorf("Text(%v): %q, %v", n, got, e)
		}
		if got, e := Read(s); got != n || e != api.OK {
			t.Errorf("Read(%q): %v, %v", s, got, e)
		}
	}
	if Var != 1 || Formal != 2 || Site != 3 || Func != 4 || Global != 5 || Stack != 6 || Heap != 7 {
		t.Error("kinds")
	}
}

func TestMayNot(t *testing.T) { // 14.1
	for i, n := range []Node{
		{}, {Kind: 8, Fn: "f", Cell: -1}, {Kind: -1, Fn: "f", Name: "x", Cell: -1},
		{Kind: Var, Fn: "f", Name: "x"}, {Kind: Var, Fn: "f", Cell: -1}, {Kind: Var, Name: "x", Cell: -1}, {Kind: Var, Fn: "f", Name: "x", N: 1, Cell: -1}, {Kind: Var, Fn: "f", Name: "x", Copy: -1, Cell: -1}, {Kind: Var, Fn: "f", Name: "x", Copy: api.MaxCount + 1, Cell: -1}, {Kind: Var, Fn: "1", Name: "x", Cell: -1}, {Kind: Var, Fn: "f", Name: "a12345678901234567", Cell: -1},
		{Kind: Formal, Fn: "f", N: -1, Cell: -1}, {Kind: Formal, Fn: "f", Name: "x", Cell: -1}, {Kind: Formal, Fn: "f"}, {Kind: Formal, Fn: "f", N: api.MaxCount + 1, Cell: -1},
		{Kind: Site, Fn: "f", Cell: -1}, {Kind: Site, Fn: "f", N: 1, Cell: 0}, {Kind: Func, Fn: "f", N: 1, Cell: -1}, {Kind: Func, Cell: -1}, {Kind: Func, Fn: "f", Cell: 0},
		{Kind: Global, Fn: "f", Name: "g", Cell: -1}, {Kind: Global, Copy: 1, Name: "g", Cell: -1}, {Kind: Global, Cell: -1}, {Kind: Global, Name: "g", Cell: -2}, {Kind: Global, Name: "g", N: 1, Cell: -1}, {Kind: Global, Name: "g", Cell: api.MaxCount + 1},
		{Kind: Stack, Fn: "f", Cell: -1}, {Kind: Stack, Fn: "f", Name: "x", N: 2, Cell: -1}, {Kind: Heap, Fn: "f", Cell: -1}, {Kind: Heap, Fn: "f", N: 1, Name: "x", Cell: -1},
	} {
		if s, e := Text(n); s != "" || e != api.ErrName {
			t.Errorf("%d: %q, %v", i, s, e)
		}
	}
	for _, s := range []string{"", "1", ".", "f.", ".x", "f.1", "f.x+0", "f.x.y", "f. x", "f .x", " g", "g ", "f$", "f$01", "f$-1", "f$x", "f$268435457", "f$1+0", "f@0", "f@1x", "f(", "f)", "f()x", "f()+0", "f(x)", "f~0.x", "f~.x", "f~01.x", "f~1", "g~1+0", "f~1~2.x", "f~1(", "g+", "g+-1", "g+01", "g+0+1", "g+268435457", "f%", "f%x+", "f%x+x", "f#0", "f#", "f#1+", "f#1+1 ", "f~268435457.x", "f.a12345678901234567", "é", "f\x00.x", "g-1", "+0", "~1.x", "()", "$1"} {
		if n, e := Read(s); n != (Node{}) || e != api.ErrName {
			t.Errorf("Read(%q): %v, %v", s, n, e)
		}
	}
}

func TestBase(t *testing.T) { // 14.2
	for s, want := range map[string]string{"f~3.p": "f.p", "f.p": "f.p", "f~2()": "f()", "f~9%x+4": "f%x+4", "g": "g", "g+1": "g+1", "f~1@2": "f@2", "f~0.p": "", "": "", "g~1": ""} {
		if got := Base(s); got != want {
			t.Errorf("Base(%q): %q", s, got)
		}
	}
}

func TestOf(t *testing.T) { // 14.2
	for _, c := range []struct {
		kind     int
		fn, name string
		n        int
		want     string
	}{{Var, "f", "x", 0, "f.x"}, {Formal, "f", "", 3, "f$3"}, {Site, "f", "", 4, "f@4"}, {Func, "f", "", 0, "f()"}, {Global, "", "g", 0, "g"}, {Stack, "f", "x", 0, "f%x"}, {Heap, "f", "", 1, "f#1"}, {Heap, "f", "", 0, ""}, {Var, "f", "x", 1, ""}, {Global, "g", "", 0, ""}, {Global, "f", "g", 0, ""}, {9, "f", "x", 0, ""}} {
		if got := Of(c.kind, c.fn, c.name, c.n); got != c.want {
			t.Errorf("%v: %q", c, got)
		}
	}
}

func TestCellObject(t *testing.T) { // 14.2
	for _, c := range []struct {
		obj  string
		n    int
		want string
	}{{"g", 0, "g+0"}, {"f~1%x", 7, "f~1%x+7"}, {"f#2", api.MaxCount, "f#2+268435456"}, {"f#2", api.MaxCount + 1, ""}, {"g", -1, ""}, {"g", -5, ""}, {"g+0", 1, ""}, {"f.x", 0, ""}, {"f()", 0, ""}, {"", 0, ""}, {"f$1", 1, ""}} {
		if got := Cell(c.obj, c.n); got != c.want {
			t.Errorf("Cell(%q, %d): %q", c.obj, c.n, got)
		}
		obj, n, ok := Object(c.want)
		if ok != (c.want != "") || ok && (obj != c.obj || n != c.n) || !ok && (obj != "" || n != 0) {
			t.Errorf("Object(%q): %q, %d, %v", c.want, obj, n, ok)
		}
	}
	for _, s := range []string{"g", "f.x", "f()", "f%x", "g+", "g+01"} {
		if obj, n, ok := Object(s); obj != "" || n != 0 || ok {
			t.Errorf("Object(%q): %q, %d", s, obj, n)
		}
	}
}
