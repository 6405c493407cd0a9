package machine

import (
	"weft/api"
	"weft/names"
	"weft/scope"
	"weft/shape"
)

// value is a number, or a pointer: to a place of an object, to a function, or to nothing.
type value struct {
	n   int64
	obj int // the object's number, and one more; 0: no object
	at  int // the place
	fn  string
}

// trap is what leaves by a panic: what ends the run.
type trap struct{ errno api.Errno }

func need(ok bool, e api.Errno) {
	if !ok {
		panic(trap{e})
	}
}

// layout is what the places of a type are.
type layout struct {
	cells []int // by places
	kinds string
}

// object is an object, with its places' values.
type object struct {
	*layout
	name   string
	t      api.Type
	alive  bool
	values []value
}

// layout of a type, which is right.
func (m *Machine) layout(t api.Type) *layout {
	text := shape.Text(t)
	if m.layouts[text] == nil {
		x := &layout{}
		x.kinds, _, _ = shape.Cells(m.m.Structs, t)
		size, _ := shape.Size(m.m.Structs, t)
		for at := range size {
			cell, _ := shape.Cell(m.m.Structs, t, at)
			x.cells = append(x.cells, cell)
		}
		m.layouts[text] = x
	}
	return m.layouts[text]
}

// object makes a new object, and tells its number.
func (m *Machine) object(name string, t api.Type) int {
	l := m.layout(t)
	m.objects = append(m.objects, &object{layout: l, name: name, t: t, alive: true, values: make([]value, len(l.cells))})
	return len(m.objects) - 1
}

// kind is the kind of a place.
func (o *object) kind(at int) int {
	if o.kinds[o.cells[at]] == 'p' {
		return api.Ptr
	}
	return api.Int
}

// cell is a place, in writing.
func (o *object) cell(at int) string { return names.Cell(o.name, o.cells[at]) }

// place is what a pointer is, as a place; empty of null.
func (m *Machine) place(v value) string {
	switch {
	case v.obj > 0:
		return m.objects[v.obj-1].cell(v.at)
	case v.fn != "":
		return names.Of(names.Func, v.fn, "", 0)
	}
	return ""
}

// see puts that a node has a pointer. (A number is no place.)
func (m *Machine) see(node string, v value) {
	p := m.place(v)
	if p == "" {
		return
	}
	if m.seen[node] == nil {
		m.seen[node] = map[string]struct{}{}
	}
	m.seen[node][p] = struct{}{}
}

// set lets a variable have a value.
func (m *Machine) set(x *frame, name string, v value) {
	x.vars[name] = v
	m.see(x.nodes[name].text, v)
}

// to is a pointer to the place 0 of an object.
func to(obj int) value { return value{obj: obj + 1} }

// address is a pointer to what a name stands for, in a function that runs.
func (m *Machine) address(x *frame, name string) value {
	if i, ok := x.objs[name]; ok {
		return to(i)
	}
	if sort, _ := scope.Find(m.m, name); sort == scope.Func {
		return value{fn: name}
	}
	return to(m.globals[name])
}

// through is the object that a pointer goes to.
func (m *Machine) through(v value) *object {
	need(v.obj > 0 || v.fn != "", api.ErrNull)
	need(v.fn == "", api.ErrType)
	o := m.objects[v.obj-1]
	need(o.alive, api.ErrDead)
	return o
}
