package machine

import (
	"weft/api"
	"weft/names"
	"weft/scope"
	"weft/shape"
)

// number is 1 of what is so, else 0.
func number(so bool) value {
	if so {
		return value{n: 1}
	}
	return value{}
}

// next is the first of some numbers, which is taken; 0 without one.
func next(l *[]int) int {
	if len(*l) == 0 {
		return 0
	}
	n := (*l)[0]
	*l = (*l)[1:]
	return n
}

// do does the statement that is next in the innermost function.
func (m *Machine) do(x *frame) {
	here := &x.paths[len(x.paths)-1]
	s := here.steps[here.at]
	a := x.vars[s.A]
	if s.Op == api.While && a.n != 0 { // it is next again behind what is within
		x.paths = append(x.paths, path{steps: s.then})
		return
	}
	here.at++
	switch s.Op {
	case api.If:
		within := s.elses
		if a.n != 0 {
			within = s.then
		}
		x.paths = append(x.paths, path{steps: within})
	case api.While:
	case api.Store:
		m.store(x, s)
	case api.Free:
		m.free(a)
	case api.Call:
		m.call(x, s, m.funcs[s.A])
	case api.Icall:
		m.icall(x, s, a)
	case api.Return:
		if x.Ret == api.Ptr {
			m.see(names.Of(names.Formal, x.Name, "", 0), a)
		}
		m.end(a)
	default:
		m.set(x, s.Dst, m.value(x, s))
	}
}

// value is what a statement that does nothing else lets its variable have.
func (m *Machine) value(x *frame, s *step) value {
	a, b := x.vars[s.A], x.vars[s.B]
	switch s.Op {
	case api.Addr:
		return m.address(x, s.A)
	case api.Copy:
		return a
	case api.Load:
		o := m.through(a)
		need(o.kind(a.at) == scope.Var(x.Func, s.Dst), api.ErrType)
		return o.values[a.at]
	case api.Member:
		return m.member(a, s)
	case api.Index:
		return m.index(a, b.n, s)
	case api.New:
		return m.fresh(x, s)
	case api.Const:
		return value{n: int64(s.N)}
	case api.Arith:
		return arith(s.N, a.n, b.n)
	case api.IsNull:
		return number(a == value{})
	case api.Same:
		return number(a == b)
	case api.Input:
		return value{n: int64(next(&m.input))}
	}
	return value{} // Null
}

func arith(op int, a, b int64) value {
	switch op {
	case api.Plus:
		return value{n: a + b}
	case api.Minus:
		return value{n: a - b}
	case api.Times:
		return value{n: a * b}
	}
	return number(a < b)
}

func (m *Machine) member(a value, s *step) value {
	o := m.through(a)
	need(shape.Begins(m.m.Structs, o.t, a.at, s.Type.Name), api.ErrBound)
	_, places, _, _ := shape.Field(m.m.Structs, s.Type.Name, s.B)
	a.at += places
	return a
}

func (m *Machine) index(a value, b int64, s *step) value {
	o := m.through(a)
	number, of, e := shape.Within(m.m.Structs, o.t, a.at, s.Type)
	need(e == api.OK, api.ErrBound)
	need(b >= int64(-number) && b < int64(of-number), api.ErrBound)
	size, _ := shape.Size(m.m.Structs, s.Type)
	a.at += int(b) * size
	return a
}

func (m *Machine) fresh(x *frame, s *step) value {
	need(len(m.objects) < maxObjects, api.ErrFull)
	if next(&m.choices) != 0 {
		return value{}
	}
	return to(m.object(names.Of(names.Heap, x.Name, "", s.n), s.Type))
}

func (m *Machine) store(x *frame, s *step) {
	p, v := x.vars[s.Dst], x.vars[s.A]
	o := m.through(p)
	need(o.kind(p.at) == scope.Var(x.Func, s.A), api.ErrType)
	o.values[p.at] = v
	m.see(o.cell(p.at), v)
}

func (m *Machine) free(a value) {
	if a == (value{}) {
		return
	}
	o := m.through(a)
	n, _ := names.Read(o.name)
	need(n.Kind == names.Heap, api.ErrKind)
	o.alive = false
}

// call lets a function begin, that has the parameters, and what is returned, that the statement asks for.
func (m *Machine) call(x *frame, s *step, f *function) {
	need(len(m.frames) < maxDepth, api.ErrDeep)
	need(len(m.objects)+len(f.Objs) <= maxObjects, api.ErrFull)
	var args []value
	for _, a := range s.Args {
		args = append(args, x.vars[a])
	}
	if s.Op == api.Icall {
		m.see(names.Of(names.Site, x.Name, "", s.n), value{fn: f.Name})
	}
	m.begin(f, args, s.Dst)
}

func (m *Machine) icall(x *frame, s *step, a value) {
	need(a != value{}, api.ErrNull)
	need(a.fn != "", api.ErrType)
	f := m.funcs[a.fn]
	fits := len(f.Params) == len(s.Args)
	for i, p := range f.Params {
		fits = fits && p.Kind == scope.Var(x.Func, s.Args[i])
	}
	if s.Dst != "" {
		fits = fits && f.Ret == scope.Var(x.Func, s.Dst)
	}
	need(fits, api.ErrArity)
	m.call(x, s, f)
}
