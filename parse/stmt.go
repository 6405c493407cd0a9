package parse

import (
	"strings"

	"weft/api"
	"weft/token"
)

// begins tells whether the token that is next begins a statement.
func (p *parser) begins() bool {
	t := p.next()
	return t.Kind == token.Name || t.Kind == token.Key && strings.Contains(" store free call icall if while return ", " "+t.Text+" ")
}

// rest takes statements that lie within deep others, up to the bracket behind them.
func (p *parser) rest(deep int) []api.Stmt {
	var l []api.Stmt
	for !p.take("}") {
		switch {
		case !p.begins():
			p.fail(api.ErrLine)
		case p.stmts >= api.MaxStmts:
			p.fail(api.ErrFull)
		case deep >= api.MaxNest:
			p.fail(api.ErrDeep)
		}
		p.stmts++
		l = append(l, p.stmt(deep))
	}
	return l
}

func (p *parser) block(deep int) []api.Stmt {
	p.want("{")
	return p.rest(deep + 1)
}

// stmt takes a statement that lies within deep others.
func (p *parser) stmt(deep int) api.Stmt {
	var s api.Stmt
	switch {
	case p.take("if"):
		s.Op, s.A = api.If, p.name()
		s.Then = p.block(deep)
		if p.take("else") {
			s.Else = p.block(deep)
		}
		return s
	case p.take("while"):
		s.Op, s.A = api.While, p.name()
		s.Then = p.block(deep)
		return s
	case p.take("store"):
		s.Op, s.Dst = api.Store, p.name()
		s.A = p.name()
	case p.take("free"):
		s.Op, s.A = api.Free, p.name()
	case p.take("return"):
		s.Op = api.Return
		if !p.is(";") {
			s.A = p.name()
		}
	case p.is("call"), p.is("icall"):
		p.value(&s)
	default:
		s.Dst = p.name()
		p.want("=")
		p.value(&s)
	}
	p.want(";")
	return s
}

// value takes what stands behind a =, or a call.
func (p *parser) value(s *api.Stmt) {
	t := p.next()
	if t.Kind == token.Count || p.is("-") {
		s.Op, s.N = api.Const, p.number()
		return
	}
	s.Op, s.N = op(t)
	if s.Op == api.None {
		p.fail(api.ErrLine)
	}
	p.at++
	switch s.Op {
	case api.Member:
		s.A = p.name()
		s.Type = api.Type{Kind: api.Record, Name: p.name()}
		s.B = p.name()
	case api.Index:
		s.A = p.name()
		s.Type = p.typ(0)
		s.B = p.name()
	case api.New:
		s.Type = p.typ(0)
	case api.Arith, api.Same:
		s.A = p.name()
		s.B = p.name()
	case api.Call, api.Icall:
		s.A = p.name()
		s.Args = p.names()
	case api.Addr, api.Copy, api.Load, api.IsNull:
		s.A = p.name()
	}
}

func (p *parser) number() int {
	if p.take("-") {
		return -p.count()
	}
	return p.count()
}

// op is the Op, and the operator, that a token behind a = tells; None: it can not stand there.
func op(t token.Token) (int, int) {
	if t.Kind != token.Key {
		return api.None, 0
	}
	switch t.Text {
	case "addr":
		return api.Addr, 0
	case "copy":
		return api.Copy, 0
	case "load":
		return api.Load, 0
	case "member":
		return api.Member, 0
	case "index":
		return api.Index, 0
	case "new":
		return api.New, 0
	case "null":
		return api.Null, 0
	case "plus":
		return api.Arith, api.Plus
	case "minus":
		return api.Arith, api.Minus
	case "times":
		return api.Arith, api.Times
	case "less":
		return api.Arith, api.Less
	case "isnull":
		return api.IsNull, 0
	case "same":
		return api.Same, 0
	case "input":
		return api.Input, 0
	case "call":
		return api.Call, 0
	case "icall":
		return api.Icall, 0
	}
	return api.None, 0
}
