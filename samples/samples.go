// Package samples makes systems and programs from a number, for tests: one number, one sample.
package samples

import (
	"slices"
	"strconv"
	"strings"

	"weft/api"
	"weft/names"
	"weft/system"
)

// Source is numbers that hang on its seed alone.
type Source struct{ state uint64 }

// From is a source of a seed.
func From(seed int) *Source { return &Source{uint64(seed)*2654435761 + 12345} }

// Next is the next number, from 0 to n - 1.
func (s *Source) Next(n int) int {
	s.state = s.state*6364136223846793005 + 1442695040888963407
	return int(s.state>>33) % max(n, 1)
}

// Chance tells whether one of n comes true.
func (s *Source) Chance(n int) bool { return s.Next(n) == 0 }

// Of is one of some texts.
func (s *Source) Of(l []string) string {
	if len(l) == 0 {
		return ""
	}
	return l[s.Next(len(l))]
}

// Numbers are n numbers of any size.
func (s *Source) Numbers(n int) []int {
	var l []int
	for range n {
		l = append(l, s.Next(1<<30)-s.Next(1<<29))
	}
	return l
}

// formals are all Formals of functions.
func formals(l []api.Fn) []string {
	var all []string
	for _, f := range l {
		node, _ := names.Read(f.Name)
		for n := range len(f.Kinds) + 1 {
			all = append(all, names.Of(names.Formal, node.Fn, "", n))
		}
	}
	return all
}

// parts are what constraints may be made of.
type parts struct {
	nodes, sites, places, tags []string
}

// partsOf are a system's parts; kinds tells which cells are nodes, too.
func partsOf(s api.System, vars, sites []string, kinds string) parts {
	p := parts{nodes: slices.Concat(vars, vars, formals(s.Fns)), sites: sites}
	for _, o := range s.Objs {
		for k := range len(o.Kinds) {
			cell := names.Cell(o.Name, k)
			p.places = append(p.places, cell)
			if strings.IndexByte(kinds, o.Kinds[k]) >= 0 {
				p.nodes = append(p.nodes, cell)
			}
		}
		for _, m := range o.Marks {
			p.tags = append(p.tags, m.Tag)
		}
	}
	for _, f := range s.Fns {
		p.places = append(p.places, f.Name)
	}
	p.tags = append(p.tags, "none")
	return p
}

func (s *Source) con(p parts) api.Con {
	c := api.Con{Op: 1 + s.Next(6), A: s.Of(p.nodes), B: s.Of(p.nodes)}
	switch c.Op {
	case api.CAddr:
		c.B = s.Of(p.places)
	case api.CField:
		c.K, c.Tag = s.Next(3), s.Of(p.tags)
	case api.CCall:
		c.A = s.Of(p.sites)
		s.call(p, &c)
	}
	return c
}

func (s *Source) call(p parts, c *api.Con) {
	kinds := s.Of([]string{"", "p", "p", "pp", "i", "ip"})
	ret := s.Of([]string{"", "p", "p", "i"})
	c.Tag, c.Args = kinds+">"+ret, []string{""}
	if ret == "p" {
		c.Args[0] = s.Of(p.nodes)
	}
	for i := range len(kinds) {
		a := ""
		if kinds[i] == 'p' && !s.Chance(5) {
			a = s.Of(p.nodes)
		}
		c.Args = append(c.Args, a)
	}
}

// System is a system that may be.
func System(seed int) api.System {
	s := From(seed)
	var sys api.System
	kinds := []string{"p", "pp", "ip", "pip", "i"}
	for _, name := range []string{"f%x", "f%y", "g", "h#1", "k"} {
		o := api.Obj{Name: name, Kinds: s.Of(kinds)}
		if s.Chance(2) {
			o.Marks = append(o.Marks, api.Mark{At: 0, Tag: "S"})
		}
		if s.Chance(3) {
			o.Marks = append(o.Marks, api.Mark{At: len(o.Kinds) - 1, Tag: "[]ptr"})
		}
		if !s.Chance(4) {
			sys.Objs = append(sys.Objs, o)
		}
	}
	for _, name := range []string{"f()", "h()", "u()"} {
		sys.Fns = append(sys.Fns, api.Fn{Name: name, Kinds: s.Of([]string{"", "p", "p", "pp", "ip"}), Ret: s.Of([]string{"p", "p", "i", "v"})})
	}
	p := partsOf(sys, []string{"f.a", "f.b", "f.c", "h.a", "h.b", "u.a"}, []string{"f@1", "f@2", "h@1"}, "ip")
	for range 3 + s.Next(22) {
		sys.Cons = append(sys.Cons, s.con(p))
	}
	for range 2 + s.Next(4) {
		sys.Cons = append(sys.Cons, api.Con{Op: api.CAddr, A: s.Of(p.nodes), B: s.Of(p.places)})
	}
	return system.Canon(sys)
}

// Face is what others may name of a system.
func Face(seed int, sys api.System) api.Face {
	s := From(seed)
	var f api.Face
	for _, x := range sys.Fns {
		if s.Chance(3) {
			f.Fns = append(f.Fns, x.Name)
		}
	}
	for _, x := range sys.Objs {
		if s.Chance(4) {
			f.Objs = append(f.Objs, x.Name)
		}
	}
	return f
}

// Other is a system that names, of another one, its face alone, and otherwise what it has of its own.
func Other(seed int, sys api.System, f api.Face) api.System {
	s := From(seed)
	o := api.System{
		Objs: []api.Obj{{Name: "own", Kinds: s.Of([]string{"p", "pp"}), Marks: []api.Mark{{At: 0, Tag: "S"}}}, {Name: "w%z", Kinds: "p"}},
		Fns:  []api.Fn{{Name: "w()", Kinds: s.Of([]string{"p", "pp", ""}), Ret: s.Of([]string{"p", "v"})}},
	}
	for _, x := range sys.Objs {
		if slices.Contains(f.Objs, x.Name) {
			o.Objs = append(o.Objs, x)
		}
	}
	for _, x := range sys.Fns {
		if slices.Contains(f.Fns, x.Name) {
			o.Fns = append(o.Fns, x)
		}
	}
	p := partsOf(o, []string{"w.a", "w.b", "w.c"}, []string{"w@1", "w@2"}, "p")
	for range 4 + s.Next(20) {
		o.Cons = append(o.Cons, s.con(p))
	}
	return system.Canon(o)
}

// number is a text, and a number behind it.
func number(s string, n int) string { return s + strconv.Itoa(n) }
