package parse

import (
	"reflect"
	"strings"
	"testing"

	"weft/api"
	"weft/show"
	"weft/token"
)

var (
	integer = api.Type{Kind: api.Int}
	pointer = api.Type{Kind: api.Ptr}
)

func array(n int, of ...api.Type) api.Type { return api.Type{Kind: api.Array, N: n, Of: of} }

func record(name string) api.Type { return api.Type{Kind: api.Record, Name: name} }

const whole = `# all that there is
module m;
struct S { a ptr; b [3]int; } struct E { }
extern global g struct S; extern fn e(int, ptr) ptr; extern fn n();
static global h [2][1]ptr; global k int;
static fn f(p ptr, i int) ptr {
	obj o struct S; var q ptr; obj z int; var j int;
	x = addr o; x = copy p; x = load p; x = member p S a; x = index p [0]int i; x = new [2]int; x = null;
	x = 7; x = - 7; x = plus a b; x = minus a b; x = times a b; x = less a b; x = isnull p; x = same p q; x = input;
	x = call f(p, i); x = icall p(); call n(); icall p(a, b, c);
	store p q; free p;
	if i { while j { return; } } else { return p; }
	if i { }
}
fn n() int { }
`

func stmts() []api.Stmt {
	return []api.Stmt{
		{Op: api.Addr, Dst: "x", A: "o"}, {Op: api.Copy, Dst: "x", A: "p"}, {Op: api.Load, Dst: "x", A: "p"}, {Op: api.Member, Dst: "x", A: "p", Type: record("S"), B: "a"}, {Op: api.Index, Dst: "x", A: "p", Type: array(0, integer), B: "i"}, {Op: api.New, Dst: "x", Type: array(2, integer)}, {Op: api.Null, Dst: "x"},
		{Op: api.Const, Dst: "x", N: 7}, {Op: api.Const, Dst: "x", N: -7}, {Op: api.Arith, Dst: "x", N: api.Plus, A: "a", B: "b"}, {Op: api.Arith, Dst: "x", N: api.Minus, A: "a", B: "b"}, {Op: api.Arith, Dst: "x", N: api.Times, A: "a", B: "b"}, {Op: api.Arith, Dst: "x", N: api.Less, A: "a", B: "b"}, {Op: api.IsNull, Dst: "x", A: "p"}, {Op: api.Same, Dst: "x", A: "p", B: "q"}, {Op: api.Input, Dst: "x"},
		{Op: api.Call, Dst: "x", A: "f", Args: []string{"p", "i"}}, {Op: api.Icall, Dst: "x", A: "p"}, {Op: api.Call, A: "n"}, {Op: api.Icall, A: "p", Args: []string{"a", "b", "c"}},
		{Op: api.Store, Dst: "p", A: "q"}, {Op: api.Free, A: "p"},
		{Op: api.If, A: "i", Then: []api.Stmt{{Op: api.While, A: "j", Then: []api.Stmt{{Op: api.Return}}}}, Else: []api.Stmt{{Op: api.Return, A: "p"}}},
		{Op: api.If, A: "i"},
	}
}

func TestModule(t *testing.T) { // 12.1
	want := api.Module{
		Name:    "m",
		Structs: []api.Struct{{Name: "S", Fields: []api.Field{{Name: "a", Type: pointer}, {Name: "b", Type: array(3, integer)}}}, {Name: "E"}},
		Externs: []api.Extern{{Name: "g", Type: record("S")}, {Name: "e", Fn: true, Params: []int{api.Int, api.Ptr}, Ret: api.Ptr}, {Name: "n", Fn: true}},
		Globals: []api.Global{{Name: "h", Static: true, Type: array(2, array(1, pointer))}, {Name: "k", Type: integer}},
		Funcs: []api.Func{
			{Name: "f", Static: true, Params: []api.Var{{Name: "p", Kind: api.Ptr}, {Name: "i", Kind: api.Int}}, Ret: api.Ptr,
				Vars: []api.Var{{Name: "q", Kind: api.Ptr}, {Name: "j", Kind: api.Int}}, Objs: []api.Field{{Name: "o", Type: record("S")}, {Name: "z", Type: integer}}, Body: stmts()},
			{Name: "n", Ret: api.Int},
		},
	}
	got, line, e := Module(whole)
	if line != 0 || e != api.OK || !reflect.DeepEqual(got, want) {
		t.Errorf("%d, %v\n%v\n%v", line, e, got, want)
	}
	got, line, e = Module("module m;")
	if line != 0 || e != api.OK || !reflect.DeepEqual(got, api.Module{Name: "m"}) {
		t.Errorf("%d, %v, %v", line, e, got)
	}
}

func TestPrefixes(t *testing.T) { // 12.1: what ends too early is short, with the last token's line
	tokens, _, _ := token.All(whole)
	for n := range tokens {
		s := token.Join(tokens[:n])
		_, _, e := Module(s)
		if last := n - 1; e != api.OK && e != api.ErrShort || e == api.OK && tokens[last].Text != ";" && tokens[last].Text != "}" {
			t.Errorf("%q: %v", s, e)
		}
	}
	for _, c := range []struct {
		s    string
		line int
	}{{"", 1}, {"\n\n# x\n", 1}, {"\n\nmodule\n\n", 3}, {"module m;\nstatic\n", 2}, {"module m;\nfn f() {\nif x {\n}\n", 4}, {"module m;\nfn f() {\nx =\n-", 4}} {
		if m, line, e := Module(c.s); !reflect.DeepEqual(m, api.Module{}) || line != c.line || e != api.ErrShort {
			t.Errorf("%q: %d, %v", c.s, line, e)
		}
	}
}

func TestWrongTokens(t *testing.T) { // 12.1: each token is asked, and the first one with which nothing goes on is told
	for _, s := range []string{
		"; ", "module ;", "module module", "module m {", "module m; ;", "module m; global ;", "module m; static struct", "module m; static ;", "module m; static static", "module m; static extern",
		"module m; struct S ;", "module m; struct S { ptr", "module m; struct S { a ;", "module m; struct S { a ptr }", "module m; struct S { a [ int", "module m; struct S { a [ 3 int", "module m; struct S { a [ - ",
		"module m; extern static", "module m; extern m", "module m; extern fn f ;", "module m; extern fn f ( ,", "module m; extern fn f ( int ,  )", "module m; extern fn f ( int int", "module m; extern fn f ( a", "module m; extern fn f ( ) struct", "module m; extern fn f ( ) int int", "module m; extern fn f ( ) {", "module m; extern fn f ( [",
		"module m; fn f ( int", "module m; fn f ( a )", "module m; fn f ( a int b", "module m; fn f ( a int , )", "module m; fn f ( ) ;", "module m; fn f ( ) { var int", "module m; fn f ( ) { var x struct", "module m; fn f ( ) { var x int ,", "module m; fn f ( ) { return ; var", "module m; fn f ( ) { obj x ;", "module m; fn f ( ) { 5", "module m; fn f ( ) { ;", "module m; fn f ( ) { else", "module m; fn f ( ) { { ",
		"module m; fn f ( ) { x ;", "module m; fn f ( ) { x = ;", "module m; fn f ( ) { x = y", "module m; fn f ( ) { x = store", "module m; fn f ( ) { x = - x", "module m; fn f ( ) { x = - -", "module m; fn f ( ) { x = addr ;", "module m; fn f ( ) { x = addr y z", "module m; fn f ( ) { x = member y struct", "module m; fn f ( ) { x = member y S ;", "module m; fn f ( ) { x = index y i", "module m; fn f ( ) { x = index y int ;", "module m; fn f ( ) { x = new ;", "module m; fn f ( ) { x = new struct ptr", "module m; fn f ( ) { x = null null", "module m; fn f ( ) { x = plus a ;", "module m; fn f ( ) { x = isnull a b", "module m; fn f ( ) { x = call ;", "module m; fn f ( ) { x = call f ;", "module m; fn f ( ) { x = call f ( 5", "module m; fn f ( ) { call f ( a b", "module m; fn f ( ) { call f ( a , )",
		"module m; fn f ( ) { store p ;", "module m; fn f ( ) { free ;", "module m; fn f ( ) { return 5", "module m; fn f ( ) { if {", "module m; fn f ( ) { if x ;", "module m; fn f ( ) { if x { } else ;", "module m; fn f ( ) { if x { } ;", "module m; fn f ( ) { while x { } else", "module m; fn f ( ) { if x { } else { } else", "module m; fn f ( ) { } }",
	} {
		at := strings.LastIndex(strings.TrimRight(s, " "), " ")
		lines := s[:at+1] + "\n" + s[at+1:] + "\n zz"
		if m, line, e := Module(lines); !reflect.DeepEqual(m, api.Module{}) || line != 2 || e != api.ErrLine {
			t.Errorf("%q: %d, %v", s, line, e)
		}
	}
}

func TestTokenErrors(t *testing.T) { // 12.1
	for s, want := range map[string]api.Errno{"; ; $": api.ErrLine, "\nmodule 05": api.ErrField, "\nx 268435457": api.ErrRange, "\na12345678901234567": api.ErrName} {
		line := 1 + strings.Count(s, "\n")
		if _, got, e := Module(s); got != line || e != want {
			t.Errorf("%q: %d, %v", s, got, e)
		}
	}
	if _, line, e := Module(strings.Repeat(" ", api.MaxText+1)); line != 0 || e != api.ErrLong {
		t.Errorf("%d, %v", line, e)
	}
}

func TestDeep(t *testing.T) { // 12.1
	for s, want := range map[string]struct {
		line int
		e    api.Errno
	}{
		"module m; global g [1][1][1]int;":                                                        {0, api.OK},
		"module m; global g [1][1][1]\n[1]int;":                                                   {2, api.ErrDeep},
		"module m; global g [1][1][1][1]\nint;":                                                   {2, api.ErrDeep},
		"module m; global g [1][1][1][1]\nstruct S;":                                              {2, api.ErrDeep},
		"module m; global g [1][1][1][1]\nx;":                                                     {2, api.ErrLine},
		"module m; fn f() {" + strings.Repeat("if x {", 5) + "return;" + strings.Repeat("}", 6):   {0, api.OK},
		"module m; fn f() {" + strings.Repeat("if x {", 6) + strings.Repeat("}", 7):               {0, api.OK},
		"module m; fn f() {" + strings.Repeat("if x {", 6) + "\nreturn;" + strings.Repeat("}", 7): {2, api.ErrDeep},
		"module m; fn f() {" + strings.Repeat("while x {", 6) + "\n5" + strings.Repeat("}", 7):    {2, api.ErrLine},
		"module m; fn f() {" + strings.Repeat("if x {} else {", 6) + "\nx = 5;":                   {2, api.ErrDeep},
	} {
		if _, line, e := Module(s); line != want.line || e != want.e {
			t.Errorf("%q: %d, %v", s, line, e)
		}
	}
}

func TestFull(t *testing.T) { // 12.1
	for _, def := range []string{"struct S { }", "extern fn e();", "extern global g int;", "global g int;", "static global g int;", "fn f() { }", "static fn f() { }"} {
		s := "module m;" + strings.Repeat(def, 24)
		if _, line, e := Module(s); line != 0 || e != api.OK {
			t.Errorf("%q: %d, %v", def, line, e)
		}
		first, _, _ := strings.Cut(def, " ")
		if _, line, e := Module(s + "\n" + strings.Replace(def, first, first+"\n", 1)); line != 2 || e != api.ErrFull {
			t.Errorf("%q: %d, %v", def, line, e)
		}
	}
	each := "struct S { } extern fn e(); global g int; fn f() { }"
	if _, _, e := Module("module m;" + strings.Repeat(each, 24)); e != api.OK {
		t.Errorf("%v: each sort is counted alone", e)
	}
	if _, line, e := Module("module m;" + strings.Repeat("global g int; fn f() { }", 24) + "static\n="); line != 2 || e != api.ErrLine {
		t.Errorf("%d, %v", line, e)
	}
	s := "module m; fn f() {" + strings.Repeat("return;", 118) + "if x { return; }"
	if _, _, e := Module(s + "} fn g() { return; }"); e != api.OK {
		t.Errorf("%v", e)
	}
	if _, line, e := Module(s + "\nreturn; }"); line != 2 || e != api.ErrFull {
		t.Errorf("%d, %v", line, e)
	}
	if _, line, e := Module(s + "\n5"); line != 2 || e != api.ErrLine {
		t.Errorf("%d, %v", line, e)
	}
	s = "module m; fn f() {" + strings.Repeat("return;", 114) + strings.Repeat("if x {", 6)
	if _, line, e := Module(s + "\nreturn;"); line != 2 || e != api.ErrFull {
		t.Errorf("%d, %v: full is asked ahead of deep", line, e)
	}
}

func TestType(t *testing.T) { // 12.2
	for s, want := range map[string]api.Type{"int": integer, " ptr # x": pointer, "struct\nS": record("S"), "[3] [0]struct S": array(3, array(0, record("S")))} {
		if got, e := Type(s); !reflect.DeepEqual(got, want) || e != api.OK {
			t.Errorf("%q: %v, %v", s, got, e)
		}
	}
	for s, want := range map[string]api.Errno{"": api.ErrShort, "[": api.ErrShort, "[3]": api.ErrShort, "struct": api.ErrShort, "x": api.ErrLine, "[x": api.ErrLine, "[-1]int": api.ErrLine, "struct int": api.ErrLine, "int int": api.ErrMore, "int ;": api.ErrMore, "[3]int [": api.ErrMore, "[1][1][1][1]int": api.ErrDeep, "[05]int": api.ErrField, "int $": api.ErrLine, strings.Repeat("#", api.MaxText+1): api.ErrLong} {
		if got, e := Type(s); !reflect.DeepEqual(got, api.Type{}) || e != want {
			t.Errorf("%.30q: %v, %v", s, got, e)
		}
	}
}

func TestBackAgain(t *testing.T) { // 12.3
	m, _, _ := Module(whole)
	s, e := show.Module(m)
	if e != api.OK {
		t.Fatal(e)
	}
	again, line, e := Module(s)
	if line != 0 || e != api.OK || !reflect.DeepEqual(again, m) {
		t.Errorf("%d, %v\n%v\n%v", line, e, again, m)
	}
	if s2, _ := show.Module(again); s2 != s {
		t.Errorf("%s\n%s", s, s2)
	}
}
