package scope

import (
	"slices"

	"weft/api"
)

// maxCopied is how many statements and types are copied at most, while one list is gone through: lists that have themselves within would have no end.
const maxCopied = 1 << 20

// copier copies what is handed out, so that it is nobody else's.
type copier struct{ room int }

// may tells whether n things that lie within deep others are copied.
func (c *copier) may(n, deep int) bool {
	if n > c.room || deep > maxWithin {
		return false
	}
	c.room -= n
	return true
}

func (c *copier) stmt(s api.Stmt, deep int) api.Stmt {
	s.Args = slices.Clone(s.Args)
	s.Type.Of = c.types(s.Type.Of, 0)
	s.Then, s.Else = c.stmts(s.Then, deep+1), c.stmts(s.Else, deep+1)
	return s
}

func (c *copier) stmts(l []api.Stmt, deep int) []api.Stmt {
	if !c.may(len(l), deep) {
		return l
	}
	l = slices.Clone(l)
	for i, s := range l {
		l[i] = c.stmt(s, deep)
	}
	return l
}

func (c *copier) types(l []api.Type, deep int) []api.Type {
	if !c.may(len(l), deep) {
		return l
	}
	l = slices.Clone(l)
	for i := range l {
		l[i].Of = c.types(l[i].Of, deep+1)
	}
	return l
}
