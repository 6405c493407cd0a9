package samples

import (
	"strings"

	"weft/api"
)

// needs are a statement's fields that its Op needs, a letter each: d Dst, a A, b B, n N, t Type, l Args, y Then, z Else.
func needs(op int) string {
	switch op {
	case api.Addr, api.Copy, api.Load, api.Store, api.IsNull:
		return "da"
	case api.Member, api.Index:
		return "dabt"
	case api.New:
		return "dt"
	case api.Null, api.Input:
		return "d"
	case api.Const:
		return "dn"
	case api.Arith:
		return "dabn"
	case api.Same:
		return "dab"
	case api.Call, api.Icall:
		return "dal"
	case api.If:
		return "ayz"
	case api.While:
		return "ay"
	}
	return "a" // Free, Return
}

// clutterer puts something into fields that a kind, or an Op, does not need.
type clutterer struct{ *Source }

// junk is a statement, with others within, or a list that has itself within.
func (c clutterer) junk() []api.Stmt {
	l := []api.Stmt{{Op: c.Next(25), Dst: "X", A: "p0", N: -7}, {Op: api.New, Dst: "p0", Type: api.Type{Kind: api.Ptr}, Args: []string{"X"}}}
	switch c.Next(3) {
	case 0:
		l[0].Then = l
	case 1:
		l[0].Else = []api.Stmt{{Op: api.Icall, A: "p0"}}
	}
	return l
}

func (c clutterer) typ(t *api.Type) {
	for i := range t.Of {
		c.typ(&t.Of[i])
	}
	if c.Chance(3) {
		return
	}
	if t.Kind != api.Record {
		t.Name = "X"
	}
	if t.Kind != api.Array {
		t.N = c.Next(9) - 4
		t.Of = []api.Type{{Kind: c.Next(9)}, {Name: "Y", Of: []api.Type{{}}}}[:c.Next(3)]
	}
	if t.Kind != api.Array && c.Chance(4) { // it has itself within
		t.Of = []api.Type{{Kind: api.Array, N: 2}}
		t.Of[0].Of = t.Of
	}
}

func (c clutterer) fields(l []api.Field) {
	for i := range l {
		c.typ(&l[i].Type)
	}
}

func (c clutterer) text(has bool, s *string) {
	if !has {
		*s = c.Of([]string{"", "X", "p0", "main", "?"})
	}
}

func (c clutterer) stmts(l []api.Stmt) {
	for i := range l {
		c.stmts(l[i].Then)
		c.stmts(l[i].Else)
		c.typ(&l[i].Type)
		c.stmt(&l[i])
	}
}

func (c clutterer) stmt(s *api.Stmt) {
	has := func(field string) bool { return c.Chance(3) || strings.Contains(needs(s.Op), field) }
	c.text(has("d"), &s.Dst)
	c.text(has("a"), &s.A)
	c.text(has("b"), &s.B)
	if !has("n") {
		s.N = -1 << 40
	}
	if !has("t") {
		s.Type = api.Type{Kind: c.Next(9) - 2, Name: "X"}
		c.typ(&s.Type)
	}
	if !has("l") {
		s.Args = []string{"X", "p0"}[:c.Next(3)]
	}
	if !has("y") {
		s.Then = c.junk()
	}
	if !has("z") {
		s.Else = c.junk()
	}
}

// Cluttered is what Module or Program tells of a seed, with something in fields that a kind, or an Op, does not need.
func Cluttered(seed int, sample func(int) api.Module) api.Module {
	c := clutterer{From(seed + 2)}
	m := sample(seed)
	for i := range m.Structs {
		c.fields(m.Structs[i].Fields)
	}
	for i := range m.Externs {
		x := &m.Externs[i]
		if c.typ(&x.Type); !x.Fn {
			x.Params, x.Ret = []int{7}, -1
		}
	}
	for i := range m.Globals {
		c.typ(&m.Globals[i].Type)
	}
	for i := range m.Funcs {
		c.fields(m.Funcs[i].Objs)
		c.stmts(m.Funcs[i].Body)
	}
	return m
}
