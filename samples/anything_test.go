package samples_test

import (
	"strings"
	"testing"

	"weft/api"
	"weft/bound"
	"weft/cache"
	"weft/clone"
	"weft/crc"
	"weft/digits"
	"weft/equate"
	"weft/fold"
	"weft/least"
	"weft/link"
	"weft/lower"
	"weft/machine"
	"weft/names"
	"weft/open"
	"weft/parse"
	"weft/pool"
	"weft/prune"
	"weft/query"
	"weft/record"
	"weft/resolve"
	"weft/samples"
	"weft/scope"
	"weft/script"
	"weft/shape"
	"weft/show"
	"weft/solve"
	"weft/space"
	"weft/split"
	"weft/sumfile"
	"weft/summary"
	"weft/symbols"
	"weft/system"
	"weft/token"
	"weft/trace"
	"weft/varint"
)

// spoiler spoils values here and there.
type spoiler struct{ *samples.Source }

func (s spoiler) text(p *string) {
	if s.Chance(60) {
		*p = s.Of([]string{"", "x", "f$1", "f()", "g+0", "f.a", "g", "0", "f@1", "module", strings.Repeat("y", 2000), "pip", ">", "p>p", "p>", "\x00", "f~0.a", "f0", "f0$1", "S", "[]ptr", "main"})
	}
}

func (s spoiler) texts(l *[]string) {
	for i := range *l {
		s.text(&(*l)[i])
	}
	if s.Chance(60) {
		*l = append(*l, "f.a")
	}
	if s.Chance(60) {
		*l = nil
	}
}

func (s spoiler) number(p *int) {
	if s.Chance(60) {
		*p = []int{-1, 0, 1, 2, 3, 7, 20, 64, 65, 1 << 28, 1<<28 + 1, 1 << 62, -1 << 63}[s.Next(13)]
	}
}

func (s spoiler) system(x *api.System) {
	for i := range x.Objs {
		s.text(&x.Objs[i].Name)
		s.text(&x.Objs[i].Kinds)
		for j := range x.Objs[i].Marks {
			s.number(&x.Objs[i].Marks[j].At)
			s.text(&x.Objs[i].Marks[j].Tag)
		}
	}
	for i := range x.Fns {
		s.text(&x.Fns[i].Name)
		s.text(&x.Fns[i].Kinds)
		s.text(&x.Fns[i].Ret)
	}
	for i := range x.Cons {
		c := &x.Cons[i]
		s.number(&c.Op)
		s.text(&c.A)
		s.text(&c.B)
		s.number(&c.K)
		s.text(&c.Tag)
		s.texts(&c.Args)
	}
}

func (s spoiler) typ(t *api.Type) {
	s.number(&t.Kind)
	s.text(&t.Name)
	s.number(&t.N)
	if s.Chance(60) {
		t.Of = []api.Type{{Kind: api.Int}, {}}[s.Next(2):]
	}
	for i := range t.Of {
		s.typ(&t.Of[i])
	}
}

func (s spoiler) stmts(l []api.Stmt) {
	for i := range l {
		x := &l[i]
		s.number(&x.Op)
		s.number(&x.N)
		s.text(&x.Dst)
		s.text(&x.A)
		s.text(&x.B)
		s.typ(&x.Type)
		s.texts(&x.Args)
		if s.Chance(60) {
			x.Then = l[:1:1] // it has itself within
		}
	}
}

func (s spoiler) module(m *api.Module) {
	s.text(&m.Name)
	for i := range m.Structs {
		s.text(&m.Structs[i].Name)
		for j := range m.Structs[i].Fields {
			s.text(&m.Structs[i].Fields[j].Name)
			s.typ(&m.Structs[i].Fields[j].Type)
		}
	}
	for i := range m.Globals {
		s.text(&m.Globals[i].Name)
		s.typ(&m.Globals[i].Type)
	}
	for i := range m.Funcs {
		f := &m.Funcs[i]
		s.text(&f.Name)
		s.number(&f.Ret)
		for j := range f.Params {
			s.text(&f.Params[j].Name)
			s.number(&f.Params[j].Kind)
		}
		if s.Chance(3) {
			s.stmts(f.Body)
		}
	}
}

func (s spoiler) summary(x *api.Summary) {
	s.text(&x.Name)
	s.texts(&x.Gives)
	s.texts(&x.Wants)
	s.texts(&x.Keeps)
	if s.Chance(2) {
		s.system(&x.System)
	}
}

// TestSystems: P1: whatever the arguments, calls end, and none panics.
func TestSystems(t *testing.T) {
	for seed := range 1500 {
		s := spoiler{samples.From(seed)}
		x := samples.System(seed)
		f := samples.Face(seed, x)
		hide := append(system.Nodes(x), "", "junk", "f()", "g")
		if !s.Chance(3) {
			s.system(&x)
			s.texts(&f.Fns)
			s.texts(&f.Objs)
		}
		s.texts(&hide)
		facts, _ := least.Facts(x)
		for i := range facts {
			s.text(&facts[i].Node)
			s.texts(&facts[i].Locs)
		}
		canon := system.Canon(x)
		system.Check(canon)
		system.Same(x, canon)
		system.Union([]api.System{x, canon})
		system.Nodes(x)
		system.Places(canon)
		solve.Facts(canon, s.Next(2000)-5, s.Numbers(5))
		solve.Stats(x, nil)
		solve.Enough(x)
		open.Of(canon, f)
		resolve.System(x, f)
		resolve.System(canon, f)
		for _, c := range x.Cons {
			resolve.Con(canon, c, append(hide, system.Places(canon)...))
			system.Compare(c, x.Cons[0])
		}
		equate.System(canon, hide)
		fold.System(canon, hide)
		prune.Needs(canon, hide)
		prune.System(x, hide, f)
		prune.System(canon, hide, f)
		summary.Hides(canon, f)
		bound.Fuel(bound.Of(canon))
		least.Of(facts, "f.a")
		least.Only(facts, hide)
		least.Within(facts, facts)
		least.Same(facts, facts)
		clone.Project(facts)
		query.Alias(facts, "f.a", "f.b")
		query.Callees(facts, "f@1")
		query.Holders(facts, "g+0")
		trace.Missing(facts, facts, hide)
		for _, h := range hide {
			names.Read(h)
			names.Base(h)
			names.Cell(h, s.Next(5)-2)
			names.Object(h)
			digits.Split(h)
			digits.Read(h)
		}
	}
}

func TestSummaries(t *testing.T) { // P1
	for seed := range 600 {
		s := spoiler{samples.From(seed)}
		var l []api.Summary
		for i := range 1 + s.Next(3) {
			x, _ := summary.Of(samples.Module(seed+i), s.Chance(2))
			if s.Chance(2) {
				x.Name += string(rune('a' + i))
			}
			s.summary(&x)
			summary.Check(x)
			summary.Same(x, x)
			summary.Face(x)
			f, _ := sumfile.Encode(x)
			b := []byte(f)
			for range s.Next(3) {
				if len(b) > 0 {
					b[s.Next(len(b))] = byte(s.Next(256))
				}
			}
			sumfile.Decode(string(b))
			if len(b) > 3 {
				sumfile.Decode(crc.Seal(string(b[:len(b)-3])))
			}
			sumfile.Version(string(b))
			p := pool.Of(record.Texts(x))
			rec, _ := record.Bytes(p, x)
			r := []byte(rec)
			if len(r) > 0 {
				r[s.Next(len(r))] = byte(s.Next(256))
			}
			record.Read(p, string(r))
			pool.Read(varint.New(string(r)))
			l = append(l, x)
		}
		symbols.Resolve(l)
		link.System(l)
		link.Keeps(l)
		link.Facts(l, s.Next(5000), s.Numbers(4))
	}
}

func TestModules(t *testing.T) { // P1
	for seed := range 600 {
		s := spoiler{samples.From(seed)}
		m := samples.Module(seed)
		if s.Chance(3) {
			m = samples.Program(seed)
		}
		s.module(&m)
		text, _ := show.Module(m)
		for _, f := range m.Funcs {
			for _, x := range f.Body {
				show.Stmt(x)
				shape.Check(m.Structs, x.Type)
				shape.Text(x.Type)
				shape.Tag(x.Type)
				shape.Cells(m.Structs, x.Type)
				shape.Cell(m.Structs, x.Type, s.Next(9)-3)
				shape.Begins(m.Structs, x.Type, s.Next(9)-3, "S")
				shape.Within(m.Structs, x.Type, s.Next(9)-3, x.Type)
				shape.Field(m.Structs, x.Type.Name, x.B)
			}
			n := 0
			for range scope.Each(f.Body) {
				if n++; n > 500 {
					break
				}
			}
			scope.Var(f, "p0")
			lower.Func(m, f.Name)
		}
		scope.Check(m)
		scope.Find(m, "f0")
		lower.Module(m)
		open.Face(m)
		summary.Of(m, true)
		summary.Of(m, false)
		l, _ := split.Modules(m, s.Numbers(5), s.Next(10)-1)
		split.Groups(m)
		split.Join(append(l, m), "x")
		clone.Calls(m)
		clone.System(m)
		query.Calls([]api.Module{m}, nil)
		trace.Of([]api.Module{m}, nil, nil, 50)
		trace.Linked(append(l, m)[:1], nil, nil, 50)
		trace.Copied(m, nil, nil, 50)
		bound.Whole(l)
		bound.Link(l, nil)
		if x, e := machine.New(l, s.Numbers(3), s.Numbers(3)); e == api.OK {
			x.Run(200)
		}
		texts(s, text)
	}
}

// texts asks what a spoilt text comes to.
func texts(s spoiler, text string) {
	b := []byte(text)
	for range s.Next(4) {
		if len(b) > 0 {
			i := s.Next(len(b))
			b = append(b[:i:i], b[i+s.Next(min(4, len(b)-i)):]...)
		}
	}
	text = string(b)
	l, _, _ := token.All(text)
	token.Join(l)
	parse.Module(text)
	parse.Type(text)
	var c cache.Cache
	c.Get(text, s.Chance(2))
	w := space.New(s.Chance(2))
	w.Add(text)
	w.Replace("prog", text)
	w.Load(text)
	w.Link(5000, nil)
	w.Points("main.p0")
	w.Reach([]string{"main"})
	lines := strings.ReplaceAll(text, "\n", " ")
	script.Run("add "+lines+"\nlink 9999\n!names\nreach main\nreplace prog "+lines+"\n"+text, s.Chance(2))
}
