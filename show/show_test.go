package show

import (
	"strings"
	"testing"

	"weft/api"
)

var (
	integer = api.Type{Kind: api.Int}
	pointer = api.Type{Kind: api.Ptr}
)

func array(n int, of ...api.Type) api.Type { return api.Type{Kind: api.Array, N: n, Of: of} }

func record(name string) api.Type { return api.Type{Kind: api.Record, Name: name} }

func body(l ...api.Stmt) api.Module {
	return api.Module{Name: "m", Funcs: []api.Func{{Name: "f", Body: l}}}
}

const whole = `module m;
struct S {
	a ptr;
	b [3]int;
}
extern global g struct S;
extern fn e(int, ptr) ptr;
extern fn n();
static global h [2][1]ptr;
global k int;
static fn f(p ptr, i int) ptr {
	var q ptr;
	var j int;
	obj o struct S;
	if i {
		while j {
			j = 5;
		}
	} else {
		j = -5;
	}
	return p;
}
fn main() {
	return;
}
`

func wholeModule() api.Module {
	return api.Module{
		Name:    "m",
		Structs: []api.Struct{{Name: "S", Fields: []api.Field{{Name: "a", Type: pointer}, {Name: "b", Type: array(3, integer)}}}},
		Externs: []api.Extern{{Name: "g", Type: record("S"), Params: []int{7}, Ret: 9}, {Name: "e", Fn: true, Params: []int{api.Int, api.Ptr}, Ret: api.Ptr, Type: api.Type{Kind: 99}}, {Name: "n", Fn: true}},
		Globals: []api.Global{{Name: "h", Static: true, Type: array(2, array(1, pointer))}, {Name: "k", Type: integer}},
		Funcs: []api.Func{
			{Name: "f", Static: true, Params: []api.Var{{Name: "p", Kind: api.Ptr}, {Name: "i", Kind: api.Int}}, Ret: api.Ptr,
				Vars: []api.Var{{Name: "q", Kind: api.Ptr}, {Name: "j", Kind: api.Int}}, Objs: []api.Field{{Name: "o", Type: record("S")}},
				Body: []api.Stmt{
					{Op: api.If, A: "i", Then: []api.Stmt{{Op: api.While, A: "j", Then: []api.Stmt{{Op: api.Const, Dst: "j", N: 5}}, Else: []api.Stmt{{Op: 99}}}}, Else: []api.Stmt{{Op: api.Const, Dst: "j", N: -5, A: "-"}}},
					{Op: api.Return, A: "p"},
				}},
			{Name: "main", Body: []api.Stmt{{Op: api.Return}}},
		},
	}
}

func TestModule(t *testing.T) { // 11.1
	if s, e := Module(wholeModule()); s != whole || e != api.OK {
		t.Errorf("%v\n%s", e, s)
	}
	if s, e := Module(api.Module{Name: "m"}); s != "module m;\n" || e != api.OK {
		t.Errorf("%q, %v", s, e)
	}
	m := body(api.Stmt{Op: api.Return, A: "p"})
	m.Funcs[0].Params, m.Funcs[0].Ret = []api.Var{{Name: "p", Kind: api.Ptr}}, api.Ptr
	if s, e := Module(m); s != "module m;\nfn f(p ptr) ptr {\n\treturn p;\n}\n" || e != api.OK {
		t.Errorf("%q, %v", s, e)
	}
}

func TestStmt(t *testing.T) { // 11.2
	for want, s := range map[string]api.Stmt{
		"x = addr y;":             {Op: api.Addr, Dst: "x", A: "y", B: "-", N: 1 << 40},
		"x = copy y;":             {Op: api.Copy, Dst: "x", A: "y"},
		"x = load y;":             {Op: api.Load, Dst: "x", A: "y"},
		"store x y;":              {Op: api.Store, Dst: "x", A: "y"},
		"x = member y S f;":       {Op: api.Member, Dst: "x", A: "y", B: "f", Type: record("S")},
		"x = index y [2]int i;":   {Op: api.Index, Dst: "x", A: "y", B: "i", Type: array(2, integer)},
		"x = new struct S;":       {Op: api.New, Dst: "x", Type: record("S")},
		"free x;":                 {Op: api.Free, A: "x", Dst: "-"},
		"x = null;":               {Op: api.Null, Dst: "x", A: "-"},
		"x = 268435456;":          {Op: api.Const, Dst: "x", N: api.MaxCount},
		"x = -268435456;":         {Op: api.Const, Dst: "x", N: -api.MaxCount},
		"x = 0;":                  {Op: api.Const, Dst: "x"},
		"x = plus y z;":           {Op: api.Arith, Dst: "x", N: api.Plus, A: "y", B: "z"},
		"x = minus y z;":          {Op: api.Arith, Dst: "x", N: api.Minus, A: "y", B: "z"},
		"x = times y z;":          {Op: api.Arith, Dst: "x", N: api.Times, A: "y", B: "z"},
		"x = less y z;":           {Op: api.Arith, Dst: "x", N: api.Less, A: "y", B: "z"},
		"x = isnull y;":           {Op: api.IsNull, Dst: "x", A: "y"},
		"x = same y z;":           {Op: api.Same, Dst: "x", A: "y", B: "z"},
		"x = input;":              {Op: api.Input, Dst: "x"},
		"call f();":               {Op: api.Call, A: "f"},
		"x = call f(a, b);":       {Op: api.Call, Dst: "x", A: "f", Args: []string{"a", "b"}},
		"icall p(a);":             {Op: api.Icall, A: "p", Args: []string{"a"}},
		"x = icall p();":          {Op: api.Icall, Dst: "x", A: "p"},
		"return;":                 {Op: api.Return, Dst: "-"},
		"return x;":               {Op: api.Return, A: "x"},
		"if x {\n}":               {Op: api.If, A: "x"},
		"while x {\n\treturn;\n}": {Op: api.While, A: "x", Then: []api.Stmt{{Op: api.Return}}},
		"if x {\n} else {\n\tif y {\n\t\treturn;\n\t}\n}": {Op: api.If, A: "x", Else: []api.Stmt{{Op: api.If, A: "y", Then: []api.Stmt{{Op: api.Return}}}}},
	} {
		if got, e := Stmt(s); got != want+"\n" || e != api.OK {
			t.Errorf("%q, %v, not %q", got, e, want)
		}
	}
}

func TestStmtErrors(t *testing.T) { // 11.1, 11.2
	for i, c := range []struct {
		s api.Stmt
		e api.Errno
	}{
		{api.Stmt{}, api.ErrKind}, {api.Stmt{Op: 20, Dst: "-"}, api.ErrKind}, {api.Stmt{Op: -1}, api.ErrKind},
		{api.Stmt{Op: api.Addr, Dst: "1", A: "y"}, api.ErrName}, {api.Stmt{Op: api.Addr, Dst: "x", A: "addr"}, api.ErrName}, {api.Stmt{Op: api.Addr, Dst: "", A: "y"}, api.ErrName},
		{api.Stmt{Op: api.Member, Dst: "x", A: "y", B: "-", Type: pointer}, api.ErrKind}, {api.Stmt{Op: api.Member, Dst: "x", A: "-", B: "f", Type: pointer}, api.ErrName}, {api.Stmt{Op: api.Member, Dst: "x", A: "y", B: "f", Type: record("")}, api.ErrName},
		{api.Stmt{Op: api.Index, Dst: "x", A: "y", B: "-", Type: array(-1, integer)}, api.ErrRange}, {api.Stmt{Op: api.Index, Dst: "x", A: "y", B: "-", Type: integer}, api.ErrName},
		{api.Stmt{Op: api.New, Dst: "x"}, api.ErrKind}, {api.Stmt{Op: api.New, Dst: "x", Type: array(-1)}, api.ErrField}, {api.Stmt{Op: api.New, Dst: "x", Type: array(api.MaxCount+1, api.Type{})}, api.ErrRange}, {api.Stmt{Op: api.New, Dst: "x", Type: array(1, integer, integer)}, api.ErrField},
		{api.Stmt{Op: api.New, Dst: "x", Type: array(1, array(1, array(1, array(-1))))}, api.ErrField}, {api.Stmt{Op: api.New, Dst: "x", Type: array(1, array(1, array(1, array(0, api.Type{}))))}, api.ErrDeep}, {api.Stmt{Op: api.New, Dst: "x", Type: record("new")}, api.ErrName},
		{api.Stmt{Op: api.Const, Dst: "x", N: api.MaxCount + 1}, api.ErrRange}, {api.Stmt{Op: api.Const, Dst: "x", N: -api.MaxCount - 1}, api.ErrRange}, {api.Stmt{Op: api.Const, Dst: "", N: -1 << 63}, api.ErrName},
		{api.Stmt{Op: api.Arith, Dst: "x", A: "-"}, api.ErrKind}, {api.Stmt{Op: api.Arith, Dst: "x", N: 5, A: "y", B: "z"}, api.ErrKind}, {api.Stmt{Op: api.Arith, Dst: "-", N: 5}, api.ErrName},
		{api.Stmt{Op: api.Call, A: "f", Args: []string{"a", ""}}, api.ErrName}, {api.Stmt{Op: api.Call, A: ""}, api.ErrName}, {api.Stmt{Op: api.Icall, A: "a12345678901234567"}, api.ErrName},
		{api.Stmt{Op: api.If, A: "x", Then: []api.Stmt{{Op: api.Return, A: "-"}}, Else: []api.Stmt{{}}}, api.ErrName}, {api.Stmt{Op: api.If, A: "x", Else: []api.Stmt{{}}}, api.ErrKind},
	} {
		if got, e := Stmt(c.s); got != "" || e != c.e {
			t.Errorf("%d: %q, %v, not %v", i, got, e, c.e)
		}
	}
}

func nested(n int) api.Stmt {
	s := api.Stmt{Op: api.Return}
	for range n {
		s = api.Stmt{Op: api.While, A: "x", Then: []api.Stmt{s}}
	}
	return s
}

func TestLimits(t *testing.T) { // 11.1
	returns := make([]api.Stmt, 121)
	for i := range returns {
		returns[i].Op = api.Return
	}
	if _, e := Module(body(returns[:120]...)); e != api.OK {
		t.Errorf("%v", e)
	}
	if _, e := Module(body(returns...)); e != api.ErrFull {
		t.Errorf("%v", e)
	}
	if _, e := Stmt(api.Stmt{Op: api.If, A: "x", Then: returns[:60], Else: returns[:60]}); e != api.ErrFull {
		t.Errorf("%v", e)
	}
	two := body(returns[:120]...)
	two.Funcs = append(two.Funcs, api.Func{Name: "g", Body: returns[:120]})
	if _, e := Module(two); e != api.OK {
		t.Errorf("%v: each function has so many", e)
	}
	if _, e := Stmt(nested(5)); e != api.OK {
		t.Errorf("%v", e)
	}
	if _, e := Stmt(nested(6)); e != api.ErrDeep {
		t.Errorf("%v", e)
	}
	deep := nested(5)
	deep.Then[0].Then[0].Then[0].Then[0].Then[0] = api.Stmt{Op: api.While, A: "x", Then: []api.Stmt{{Op: 77}}}
	if _, e := Stmt(deep); e != api.ErrDeep {
		t.Errorf("%v: deep is asked ahead of the Op", e)
	}
	if _, e := Module(body(append(returns[:120:120], api.Stmt{Op: 77})...)); e != api.ErrFull {
		t.Errorf("%v: full is asked ahead of the Op", e)
	}
	for i, c := range []func(m *api.Module, n int){
		func(m *api.Module, n int) { m.Structs = make([]api.Struct, n) },
		func(m *api.Module, n int) { m.Externs = make([]api.Extern, n) },
		func(m *api.Module, n int) { m.Globals = make([]api.Global, n) },
		func(m *api.Module, n int) { m.Funcs = make([]api.Func, n) },
	} {
		for n, want := range map[int]api.Errno{24: api.OK, 25: api.ErrFull} {
			m := api.Module{Name: "m"}
			c(&m, n)
			for i := range m.Structs {
				m.Structs[i].Name = "s"
			}
			for i := range m.Externs {
				m.Externs[i].Name, m.Externs[i].Fn = "s", true
			}
			for i := range m.Globals {
				m.Globals[i].Name, m.Globals[i].Type = "s", integer
			}
			for i := range m.Funcs {
				m.Funcs[i].Name = "s"
			}
			if _, e := Module(m); e != want {
				t.Errorf("sort %d, %d of them: %v", i, n, e)
			}
		}
	}
}

func TestModuleErrors(t *testing.T) { // 11.1
	for i, c := range []struct {
		change func(m *api.Module)
		e      api.Errno
	}{
		{func(m *api.Module) { m.Name = "module" }, api.ErrName},
		{func(m *api.Module) { m.Structs[0].Name = "" }, api.ErrName},
		{func(m *api.Module) { m.Structs[0].Fields[1].Type.N = -1; m.Externs[0].Name = "" }, api.ErrRange},
		{func(m *api.Module) { m.Externs[0].Type = api.Type{} }, api.ErrKind},
		{func(m *api.Module) { m.Externs[1].Params[1] = api.None }, api.ErrKind},
		{func(m *api.Module) { m.Externs[1].Params[1] = api.Record }, api.ErrKind},
		{func(m *api.Module) { m.Externs[1].Ret = api.Array }, api.ErrKind},
		{func(m *api.Module) { m.Globals[0].Name = "a b" }, api.ErrName},
		{func(m *api.Module) { m.Globals[0].Type.Of = nil }, api.ErrField},
		{func(m *api.Module) { m.Funcs[0].Params[0].Kind = 0; m.Funcs[0].Params[1].Name = "" }, api.ErrKind},
		{func(m *api.Module) { m.Funcs[0].Params[1].Name = "" }, api.ErrName},
		{func(m *api.Module) { m.Funcs[0].Ret = -1 }, api.ErrKind},
		{func(m *api.Module) { m.Funcs[0].Vars[1].Kind = 3 }, api.ErrKind},
		{func(m *api.Module) { m.Funcs[0].Objs[0].Type = record("1") }, api.ErrName},
		{func(m *api.Module) { m.Funcs[0].Body[0].Then[0].Then[0].Op = 0 }, api.ErrKind},
		{func(m *api.Module) { m.Funcs[0].Body[0].Op = 0; m.Funcs[1].Name = "" }, api.ErrKind},
		{func(m *api.Module) { m.Funcs[0].Vars = make([]api.Var, 3000); fill(m.Funcs[0].Vars) }, api.ErrLong},
		{func(m *api.Module) {
			m.Funcs[0].Vars = make([]api.Var, 3000)
			fill(m.Funcs[0].Vars)
			m.Funcs[1].Name = ""
		}, api.ErrName},
	} {
		m := wholeModule()
		c.change(&m)
		if got, e := Module(m); got != "" || e != c.e {
			t.Errorf("%d: %q, %v, not %v", i, got, e, c.e)
		}
	}
}

func fill(l []api.Var) {
	for i := range l {
		l[i] = api.Var{Name: "x", Kind: api.Int}
	}
}

func TestLong(t *testing.T) { // 11.1
	m := body()
	s, _ := Module(m)
	for len(s) < api.MaxText-32 {
		m.Funcs[0].Vars = append(m.Funcs[0].Vars, api.Var{Name: "v", Kind: api.Int})
		s, _ = Module(m)
	}
	m.Funcs[0].Vars = append(m.Funcs[0].Vars, api.Var{Name: "v", Kind: api.Int})
	s, _ = Module(m)
	m.Funcs[0].Vars[0].Name = strings.Repeat("v", 1+api.MaxText-len(s))
	if s, e := Module(m); len(s) != api.MaxText || e != api.OK {
		t.Errorf("%d bytes, %v", len(s), e)
	}
	m.Funcs[0].Vars[1].Name = "vv"
	if s, e := Module(m); s != "" || e != api.ErrLong {
		t.Errorf("%d bytes, %v", len(s), e)
	}
}

func TestRoundLists(t *testing.T) { // P1
	l := make([]api.Stmt, 2)
	l[0] = api.Stmt{Op: api.If, A: "x", Then: l, Else: l}
	l[1] = l[0]
	if _, e := Stmt(l[0]); e != api.ErrDeep {
		t.Errorf("%v", e)
	}
}
