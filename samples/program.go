package samples

import (
	"slices"

	"weft/api"
	"weft/shape"
)

// thing is what a variable points at: a type in writing, or a function.
type thing struct{ text string }

// program is a program that grows.
type program struct {
	*Source
	m       api.Module
	careful bool             // pointers are mostly gone through as what they point at allows
	known   map[string]thing // what variables point at, as far as that is known
}

func array(n int, of api.Type) api.Type {
	return api.Type{Kind: api.Array, N: n, Of: []api.Type{of}}
}

func record(name string) api.Type { return api.Type{Kind: api.Record, Name: name} }

// typ is some type.
func (p *program) typ() api.Type {
	integer, pointer := api.Type{Kind: api.Int}, api.Type{Kind: api.Ptr}
	switch p.Next(9) {
	case 0:
		return integer
	case 1, 2, 3:
		return pointer
	case 4, 5:
		return record("S")
	case 6:
		return record("T")
	case 7:
		return array(3, pointer)
	}
	return array(2, record("S"))
}

// Program is a module that is well formed, has no externs, and a function main.
func Program(seed int) api.Module {
	p := &program{Source: From(seed), careful: seed%3 > 0}
	pointer := api.Type{Kind: api.Ptr}
	p.m.Name = "prog"
	p.m.Structs = []api.Struct{
		{Name: "S", Fields: []api.Field{{Name: "a", Type: pointer}, {Name: "b", Type: api.Type{Kind: api.Int}}, {Name: "c", Type: array(2, pointer)}}},
		{Name: "T", Fields: []api.Field{{Name: "s", Type: record("S")}, {Name: "n", Type: pointer}}},
	}
	for i := range 2 + p.Next(4) {
		p.m.Globals = append(p.m.Globals, api.Global{Name: number("g", i), Static: p.Chance(3), Type: p.typ()})
	}
	for i := range 2 + p.Next(4) {
		p.m.Funcs = append(p.m.Funcs, p.head(number("f", i)))
	}
	main := p.head("main")
	main.Params, main.Ret, main.Static = nil, api.None, p.Chance(4)
	p.m.Funcs = append(p.m.Funcs, main)
	for i := range p.m.Funcs {
		p.body(&p.m.Funcs[i])
	}
	return p.m
}

// head is a function without statements.
func (p *program) head(name string) api.Func {
	f := api.Func{Name: name, Static: p.Chance(3), Ret: p.Next(4)}
	if f.Ret == api.Record {
		f.Ret = api.Ptr
	}
	for i := range p.Next(4) {
		kind := api.Ptr
		if p.Chance(3) {
			kind = api.Int
		}
		f.Params = append(f.Params, api.Var{Name: number("a", i), Kind: kind})
	}
	for i := range 4 {
		f.Vars = append(f.Vars, api.Var{Name: number("p", i), Kind: api.Ptr})
	}
	for i := range 2 {
		f.Vars = append(f.Vars, api.Var{Name: number("i", i), Kind: api.Int})
	}
	for i := range p.Next(3) {
		f.Objs = append(f.Objs, api.Field{Name: number("o", i), Type: p.typ()})
	}
	return f
}

// variables are those of a kind that a function has.
func variables(f *api.Func, kind int) []string {
	var l []string
	for _, v := range slices.Concat(f.Params, f.Vars) {
		if v.Kind == kind {
			l = append(l, v.Name)
		}
	}
	return l
}

func (p *program) body(f *api.Func) {
	p.known = map[string]thing{}
	for _, v := range []string{"p0", "p1", "p2"} {
		f.Body = append(f.Body, p.addr(f, v))
	}
	f.Body = append(f.Body, p.stmts(f, 4+p.Next(14), 0)...)
	if f.Ret != api.None {
		f.Body = append(f.Body, p.returned(f))
	}
}

// target is something that has an address.
func (p *program) target(f *api.Func) string {
	var l []string
	for _, g := range p.m.Globals {
		l = append(l, g.Name)
	}
	for _, o := range f.Objs {
		l = append(l, o.Name, o.Name)
	}
	for _, x := range p.m.Funcs[:len(p.m.Funcs)-1] {
		l = append(l, x.Name)
	}
	return p.Of(l)
}

func (p *program) returned(f *api.Func) api.Stmt {
	s := api.Stmt{Op: api.Return}
	if f.Ret != api.None {
		s.A = p.Of(variables(f, f.Ret))
	}
	return s
}

func (p *program) stmts(f *api.Func, n, deep int) []api.Stmt {
	var l []api.Stmt
	for range n {
		l = append(l, p.stmt(f, deep))
	}
	return l
}

// addr lets a variable have an address.
func (p *program) addr(f *api.Func, v string) api.Stmt {
	s := api.Stmt{Op: api.Addr, Dst: v, A: p.target(f)}
	p.known[v] = thing{"function " + s.A}
	for _, g := range p.m.Globals {
		if g.Name == s.A {
			p.known[v] = thing{shape.Text(g.Type)}
		}
	}
	for _, o := range f.Objs {
		if o.Name == s.A {
			p.known[v] = thing{shape.Text(o.Type)}
		}
	}
	return s
}

// pointing is a variable that points at something, if care is taken; empty without one.
func (p *program) pointing(f *api.Func, at ...string) string {
	l := variables(f, api.Ptr)
	if p.careful && !p.Chance(25) {
		l = slices.DeleteFunc(l, func(v string) bool { return !slices.Contains(at, p.known[v].text) })
	}
	return p.Of(l)
}

// through is a statement that goes through a pointer, and what comes of it points at what is told.
func (p *program) through(f *api.Func, s api.Stmt, to string, at ...string) api.Stmt {
	dst := p.Of(variables(f, api.Ptr))
	a := p.pointing(f, at...)
	if a == "" {
		return p.addr(f, dst)
	}
	s.Dst, s.A = dst, a
	if s.Op == api.Store {
		s.Dst, s.A = a, dst
	} else {
		p.known[dst] = thing{to}
	}
	return s
}

// block is statements that are done perhaps, or again and again: what is known ahead of them is not known in them, nor behind.
func (p *program) block(f *api.Func, n, deep int) []api.Stmt {
	p.known = map[string]thing{}
	l := p.stmts(f, n, deep)
	p.known = map[string]thing{}
	return l
}

// stmt is some statement, often one of pointers.
func (p *program) stmt(f *api.Func, deep int) api.Stmt {
	ptr := func() string { return p.Of(variables(f, api.Ptr)) }
	num := func() string { return p.Of(variables(f, api.Int)) }
	switch p.Next(22) {
	case 0, 1:
		s := api.Stmt{Op: api.Copy, Dst: ptr(), A: ptr()}
		p.known[s.Dst] = p.known[s.A]
		return s
	case 2, 3, 4:
		return p.through(f, api.Stmt{Op: api.Load}, "", "ptr", "[2]ptr", "[3]ptr", "struct S")
	case 5, 6, 7:
		return p.through(f, api.Stmt{Op: api.Store}, "", "ptr", "[2]ptr", "[3]ptr", "struct S")
	case 8, 9:
		field := p.Next(3)
		return p.through(f, api.Stmt{Op: api.Member, Type: record("S"), B: "abc"[field : field+1]}, []string{"ptr", "int", "[2]ptr"}[field], "struct S", "struct T", "[2]struct S")
	case 10:
		field := p.Next(2)
		return p.through(f, api.Stmt{Op: api.Member, Type: record("T"), B: "sn"[field : field+1]}, []string{"struct S", "ptr"}[field], "struct T")
	case 11:
		return p.through(f, api.Stmt{Op: api.Index, Type: api.Type{Kind: api.Ptr}, B: num()}, "ptr", "[2]ptr", "[3]ptr")
	case 12:
		s := api.Stmt{Op: api.New, Dst: ptr(), Type: p.typ()}
		p.known[s.Dst] = thing{shape.Text(s.Type)}
		return s
	case 13:
		return api.Stmt{Op: api.IsNull, Dst: num(), A: ptr()}
	case 14, 15, 16:
		return p.call(f)
	case 17, 18:
		return p.icall(f)
	case 19:
		if deep < 3 {
			return api.Stmt{Op: api.If, A: num(), Then: p.block(f, 1+p.Next(3), deep+1), Else: p.block(f, p.Next(3), deep+1)}
		}
	case 20:
		if deep < 3 && p.Chance(2) {
			return api.Stmt{Op: api.While, A: num(), Then: p.block(f, 1+p.Next(3), deep+1)}
		}
	case 21:
		return api.Stmt{Op: api.Input, Dst: num()}
	}
	return p.addr(f, ptr())
}

// call is a call of some function but main.
func (p *program) call(f *api.Func) api.Stmt {
	return p.callOf(f, p.m.Funcs[p.Next(len(p.m.Funcs)-1)])
}

func (p *program) callOf(f *api.Func, g api.Func) api.Stmt {
	s := api.Stmt{Op: api.Call, A: g.Name}
	for _, a := range g.Params {
		s.Args = append(s.Args, p.Of(variables(f, a.Kind)))
	}
	if g.Ret != api.None && !p.Chance(4) {
		s.Dst = p.Of(variables(f, g.Ret))
		delete(p.known, s.Dst)
	}
	return s
}

// icall is a call through some pointer, such as would fit some function.
func (p *program) icall(f *api.Func) api.Stmt {
	for _, g := range p.m.Funcs {
		if v := p.pointing(f, "function "+g.Name); v != "" && !p.Chance(3) {
			s := p.callOf(f, g)
			s.Op, s.A = api.Icall, v
			return s
		}
	}
	return p.addr(f, p.Of(variables(f, api.Ptr)))
}

// Module is a module that is well formed, some definitions of which others have to give.
func Module(seed int) api.Module {
	m := Program(seed)
	s := From(seed + 1)
	m.Globals = slices.DeleteFunc(m.Globals, func(g api.Global) bool {
		out := !g.Static && s.Chance(3)
		if out {
			m.Externs = append(m.Externs, api.Extern{Name: g.Name, Type: g.Type})
		}
		return out
	})
	m.Funcs = slices.DeleteFunc(m.Funcs, func(f api.Func) bool {
		out := !f.Static && s.Chance(3)
		if out {
			x := api.Extern{Name: f.Name, Fn: true, Ret: f.Ret}
			for _, p := range f.Params {
				x.Params = append(x.Params, p.Kind)
			}
			m.Externs = append(m.Externs, x)
		}
		return out
	})
	return m
}
