// Package copies makes parts of modules anew: a copy has all that the part has, needed or not, and shares no list with it.
package copies

import (
	"slices"

	"weft/api"
)

// maxRoom is how many things are copied till a list that stands in several places is copied once for all of them: lists that stand in one another over and over would fill all memory.
const maxRoom = 1 << 20

// place is where a list is: lists that begin at the same thing, and have as many, are the same.
type place[T any] struct {
	first *T
	n     int
}

// copier copies what lies within one part.
type copier struct {
	room  int
	types map[place[api.Type]][]api.Type
	stmts map[place[api.Stmt]][]api.Stmt
}

func newCopier() *copier {
	return &copier{maxRoom, map[place[api.Type]][]api.Type{}, map[place[api.Stmt]][]api.Stmt{}}
}

// list is a copy of a list, in which inner makes anew what lies within each thing. A list that is being copied, and stands within itself, does so in the copy: it would have no end otherwise.
func list[T any](c *copier, made map[place[T]][]T, l []T, inner func(*T)) []T {
	if len(l) == 0 {
		return slices.Clone(l)
	}
	here := place[T]{&l[0], len(l)}
	if again, ok := made[here]; ok {
		return again
	}
	anew := slices.Clone(l)
	made[here] = anew
	for i := range anew {
		inner(&anew[i])
	}
	c.room -= len(anew)
	if c.room > 0 {
		delete(made, here)
	}
	return anew
}

func (c *copier) typ(t *api.Type) { t.Of = list(c, c.types, t.Of, c.typ) }

func (c *copier) stmt(s *api.Stmt) {
	c.typ(&s.Type)
	s.Args = slices.Clone(s.Args)
	s.Then = list(c, c.stmts, s.Then, c.stmt)
	s.Else = list(c, c.stmts, s.Else, c.stmt)
}

func (c *copier) fields(l []api.Field) []api.Field {
	l = slices.Clone(l)
	for i := range l {
		c.typ(&l[i].Type)
	}
	return l
}

// Type is a copy of a type.
func Type(t api.Type) api.Type {
	newCopier().typ(&t)
	return t
}

// Stmt is a copy of a statement, with all that stands within it.
func Stmt(s api.Stmt) api.Stmt {
	newCopier().stmt(&s)
	return s
}

// Struct is a copy of a struct's definition.
func Struct(s api.Struct) api.Struct {
	s.Fields = newCopier().fields(s.Fields)
	return s
}

// Global is a copy of a global's definition.
func Global(g api.Global) api.Global {
	g.Type = Type(g.Type)
	return g
}

// Func is a copy of a function's definition.
func Func(f api.Func) api.Func {
	c := newCopier()
	f.Params, f.Vars = slices.Clone(f.Params), slices.Clone(f.Vars)
	f.Objs = c.fields(f.Objs)
	f.Body = list(c, c.stmts, f.Body, c.stmt)
	return f
}
