package scope

import (
	"slices"

	"weft/api"
	"weft/shape"
	"weft/show"
)

// anyKind is asked of a variable that may have either kind.
const anyKind = -1

// Check tells what is wrong with a module, and in which definition.
func Check(m api.Module) (string, api.Errno) {
	if _, e := show.Module(m); e != api.OK {
		return "", e
	}
	for _, check := range []func(api.Module) (string, api.Errno){structs, externs, globals, funcs, bodies} {
		if name, e := check(m); e != api.OK {
			return name, e
		}
	}
	return "", api.OK
}

// twice tells whether two of some names are the same.
func twice(names []string) bool {
	l := slices.Sorted(slices.Values(names))
	return len(slices.Compact(l)) < len(names)
}

func structs(m api.Module) (string, api.Errno) {
	for i, s := range m.Structs {
		ahead := slices.ContainsFunc(m.Structs[:i], func(t api.Struct) bool { return t.Name == s.Name })
		if ahead || twice(fieldNames(s.Fields)) {
			return s.Name, api.ErrTwice
		}
		if e := shape.Check(m.Structs, api.Type{Kind: api.Record, Name: s.Name}); e != api.OK {
			return s.Name, e
		}
	}
	return "", api.OK
}

func fieldNames(l []api.Field) []string {
	var names []string
	for _, f := range l {
		names = append(names, f.Name)
	}
	return names
}

// ahead tells whether a definition stands ahead of the one of a sort, and a place.
func ahead(m api.Module, name string, sort, at int) bool {
	s, i := Find(m, name)
	return s != sort || i != at
}

func externs(m api.Module) (string, api.Errno) {
	for i, x := range m.Externs {
		if _, first := Find(m, x.Name); first != i { // externs are found ahead of all others
			return x.Name, api.ErrTwice
		}
		e := api.OK
		if !x.Fn {
			e = shape.Check(m.Structs, x.Type)
		} else if len(x.Params) > api.MaxParams {
			e = api.ErrArity
		}
		if e != api.OK {
			return x.Name, e
		}
	}
	return "", api.OK
}

func globals(m api.Module) (string, api.Errno) {
	for i, g := range m.Globals {
		if ahead(m, g.Name, Global, i) {
			return g.Name, api.ErrTwice
		}
		if e := shape.Check(m.Structs, g.Type); e != api.OK {
			return g.Name, e
		}
	}
	return "", api.OK
}

func funcs(m api.Module) (string, api.Errno) {
	for i, f := range m.Funcs {
		if ahead(m, f.Name, Func, i) {
			return f.Name, api.ErrTwice
		}
		if e := head(m, f); e != api.OK {
			return f.Name, e
		}
	}
	return "", api.OK
}

// head tells what is wrong with a function, its statements apart.
func head(m api.Module, f api.Func) api.Errno {
	names := fieldNames(f.Objs)
	for _, l := range [][]api.Var{f.Params, f.Vars} {
		for _, v := range l {
			names = append(names, v.Name)
		}
	}
	switch {
	case len(f.Params) > api.MaxParams:
		return api.ErrArity
	case len(f.Params)+len(f.Vars) > api.MaxVars, len(f.Objs) > api.MaxDefs:
		return api.ErrFull
	case twice(names):
		return api.ErrTwice
	}
	for _, o := range f.Objs {
		if e := shape.Check(m.Structs, o.Type); e != api.OK {
			return e
		}
	}
	return api.OK
}

func bodies(m api.Module) (string, api.Errno) {
	for _, f := range m.Funcs {
		c := checker{m, f}
		for _, s := range Each(f.Body) {
			for _, ask := range c.asks(s) {
				if e := ask(); e != api.OK {
					return f.Name, e
				}
			}
		}
	}
	return "", api.OK
}

// checker asks statements of a function.
type checker struct {
	m api.Module
	f api.Func
}

// variable asks for a variable of a kind.
func (c checker) variable(name string, kind int) func() api.Errno {
	return func() api.Errno {
		switch k := Var(c.f, name); {
		case k == api.None:
			return api.ErrNone
		case kind != anyKind && kind != k:
			return api.ErrType
		}
		return api.OK
	}
}

// need asks for what is so, or is not.
func need(ok bool, e api.Errno) func() api.Errno {
	return func() api.Errno {
		if !ok {
			return e
		}
		return api.OK
	}
}

func (c checker) typ(t api.Type) func() api.Errno {
	return func() api.Errno { return shape.Check(c.m.Structs, t) }
}

// asks is all that is asked of a statement, one behind the other.
func (c checker) asks(s api.Stmt) []func() api.Errno {
	type list = []func() api.Errno
	v := c.variable
	switch s.Op {
	case api.Addr:
		return list{v(s.Dst, api.Ptr), c.target(s.A)}
	case api.Copy:
		return list{v(s.Dst, anyKind), v(s.A, Var(c.f, s.Dst))}
	case api.Load:
		return list{v(s.Dst, anyKind), v(s.A, api.Ptr)}
	case api.Store:
		return list{v(s.Dst, api.Ptr), v(s.A, anyKind)}
	case api.Member:
		return list{v(s.Dst, api.Ptr), v(s.A, api.Ptr), func() api.Errno {
			_, _, _, e := shape.Field(c.m.Structs, s.Type.Name, s.B)
			return e
		}}
	case api.Index:
		return list{v(s.Dst, api.Ptr), v(s.A, api.Ptr), v(s.B, api.Int), c.typ(s.Type)}
	case api.New:
		return list{v(s.Dst, api.Ptr), c.typ(s.Type)}
	case api.Free:
		return list{v(s.A, api.Ptr)}
	case api.Null:
		return list{v(s.Dst, api.Ptr)}
	case api.Const, api.Input:
		return list{v(s.Dst, api.Int)}
	case api.Arith:
		return list{v(s.Dst, api.Int), v(s.A, api.Int), v(s.B, api.Int)}
	case api.IsNull:
		return list{v(s.Dst, api.Int), v(s.A, api.Ptr)}
	case api.Same:
		return list{v(s.Dst, api.Int), v(s.A, api.Ptr), v(s.B, api.Ptr)}
	case api.Call:
		return c.call(s)
	case api.Icall:
		return c.icall(s)
	case api.If, api.While:
		return list{v(s.A, api.Int)}
	}
	return list{c.returned(s)}
}

// target asks for an object of the function, or a definition.
func (c checker) target(name string) func() api.Errno {
	sort, _ := Find(c.m, name)
	return need(sort != Nothing || slices.Contains(fieldNames(c.f.Objs), name), api.ErrNone)
}

// signature is the parameters' kinds of a function, or an extern one, and what it returns; false: there is none.
func signature(m api.Module, name string) ([]int, int, bool) {
	switch sort, i := Find(m, name); sort {
	case ExFunc:
		return m.Externs[i].Params, m.Externs[i].Ret, true
	case Func:
		var kinds []int
		for _, p := range m.Funcs[i].Params {
			kinds = append(kinds, p.Kind)
		}
		return kinds, m.Funcs[i].Ret, true
	}
	return nil, api.None, false
}

func (c checker) call(s api.Stmt) []func() api.Errno {
	kinds, ret, ok := signature(c.m, s.A)
	l := []func() api.Errno{need(ok, api.ErrNone), need(len(s.Args) == len(kinds), api.ErrArity)}
	for i := range min(len(s.Args), len(kinds)) {
		l = append(l, c.variable(s.Args[i], kinds[i]))
	}
	if s.Dst != "" {
		l = append(l, c.variable(s.Dst, ret)) // a variable that is there is never of the kind None
	}
	return l
}

func (c checker) icall(s api.Stmt) []func() api.Errno {
	l := []func() api.Errno{c.variable(s.A, api.Ptr), need(len(s.Args) <= api.MaxParams, api.ErrArity)}
	for _, a := range s.Args {
		l = append(l, c.variable(a, anyKind))
	}
	if s.Dst != "" {
		l = append(l, c.variable(s.Dst, anyKind))
	}
	return l
}

func (c checker) returned(s api.Stmt) func() api.Errno {
	if c.f.Ret == api.None {
		return need(s.A == "", api.ErrType)
	}
	return c.variable(s.A, c.f.Ret)
}
