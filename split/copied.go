package split

import (
	"slices"

	"weft/api"
)

// The functions here copy parts of modules that are well formed, so that what is handed out is nobody else's. What a kind, or an Op, does not need may be anything, without an end even, and is left out.

func typ(t api.Type) api.Type {
	c := api.Type{Kind: t.Kind}
	switch t.Kind {
	case api.Record:
		c.Name = t.Name
	case api.Array:
		c.N, c.Of = t.N, []api.Type{typ(t.Of[0])}
	}
	return c
}

func fields(l []api.Field) []api.Field {
	l = slices.Clone(l)
	for i := range l {
		l[i].Type = typ(l[i].Type)
	}
	return l
}

func structure(s api.Struct) api.Struct {
	return api.Struct{Name: s.Name, Fields: fields(s.Fields)}
}

func structs(l []api.Struct) []api.Struct {
	var c []api.Struct
	for _, s := range l {
		c = append(c, structure(s))
	}
	return c
}

func global(g api.Global) api.Global {
	g.Type = typ(g.Type)
	return g
}

func function(f api.Func) api.Func {
	f.Params, f.Vars = slices.Clone(f.Params), slices.Clone(f.Vars)
	f.Objs, f.Body = fields(f.Objs), stmts(f.Body)
	return f
}

func stmts(l []api.Stmt) []api.Stmt {
	var c []api.Stmt
	for _, s := range l {
		c = append(c, stmt(s))
	}
	return c
}

func stmt(s api.Stmt) api.Stmt {
	c := api.Stmt{Op: s.Op, Dst: s.Dst, A: s.A, B: s.B, N: s.N}
	switch s.Op {
	case api.If:
		c.Then, c.Else = stmts(s.Then), stmts(s.Else)
	case api.While:
		c.Then = stmts(s.Then)
	case api.Call, api.Icall:
		c.Args = slices.Clone(s.Args)
	case api.Member, api.Index, api.New:
		c.Type = typ(s.Type)
	}
	return c
}
