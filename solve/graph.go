package solve

import (
	"slices"
	"strings"

	"weft/agenda"
	"weft/api"
	"weft/bits"
	"weft/forest"
	"weft/intern"
	"weft/names"
	"weft/system"
)

// edge is over which places cross to a node.
type edge struct {
	to      int
	crossed bits.Set
	looked  bool // whether its ends lead to one another
}

// pair is an edge's ends.
type pair struct{ from, to int }

// meeting is a constraint, with the places of its pointer that met it.
type meeting struct {
	con  api.Con
	a, b int
	args []int // none is -1
	met  bits.Set
}

// graph is nodes, and what they have so far. Of nodes that were brought together the least one, as forest says, stands for all.
type graph struct {
	fuel, taken             int
	together, laid, crossed int
	picks                   *agenda.Picks
	todo                    agenda.Agenda[int]

	cons    []api.Con
	fns     map[int]api.Fn  // by their places' numbers
	objs    map[int]api.Obj // by their cells' numbers
	cells   map[int]int     // the nodes of places that are pointer cells
	places  intern.Table[string]
	nodes   intern.Table[string]
	parts   *forest.Forest
	has     []bits.Set
	meets   [][]*meeting
	outs    [][]*edge
	ins     [][]int // nodes from which an edge leads, or led when it was laid
	between map[pair]*edge
}

func newGraph(s api.System, fuel int, picks []int) *graph {
	g := &graph{fuel: fuel, picks: agenda.Of(picks), cons: s.Cons, fns: map[int]api.Fn{}, objs: map[int]api.Obj{}, cells: map[int]int{}, between: map[pair]*edge{}}
	for _, p := range system.Places(s) { // rising, so that numbers rise as texts do
		g.places.Put(p)
	}
	for _, n := range system.Nodes(s) {
		g.nodes.Put(n)
	}
	for _, f := range s.Fns {
		p, _ := g.places.Find(f.Name)
		g.fns[p] = f
		for n := range len(f.Kinds) + 1 {
			g.nodes.Put(formal(f, n))
		}
	}
	for _, o := range s.Objs {
		for k := range len(o.Kinds) {
			cell := names.Cell(o.Name, k)
			p, _ := g.places.Find(cell)
			g.objs[p] = o
			if o.Kinds[k] == 'p' {
				g.cells[p] = g.node(cell)
			}
		}
	}
	n := g.nodes.Len()
	g.parts = forest.New(n)
	g.has, g.meets, g.outs, g.ins = make([]bits.Set, n), make([][]*meeting, n), make([][]*edge, n), make([][]int, n)
	return g
}

// node is a node's number; -1 of none.
func (g *graph) node(s string) int {
	n, ok := g.nodes.Find(s)
	if !ok {
		return -1
	}
	return n
}

func (g *graph) spend() {
	if g.taken == g.fuel {
		panic(without{})
	}
	g.taken++
}

// begin puts all constraints.
func (g *graph) begin() {
	for _, c := range g.cons {
		m := &meeting{con: c, a: g.node(c.A), b: g.node(c.B)}
		for _, a := range c.Args {
			m.args = append(m.args, g.node(a))
		}
		switch c.Op {
		case api.CAddr:
			p, _ := g.places.Find(c.B)
			g.get(m.a, p)
		case api.CCopy:
			g.lay(m.b, m.a)
		case api.CStore:
			g.meets[m.a] = append(g.meets[m.a], m)
		default:
			g.meets[m.b] = append(g.meets[m.b], m)
		}
	}
}

// get lets a node have a place.
func (g *graph) get(n, p int) {
	n = g.parts.Find(n)
	if g.has[n].Add(p) {
		g.spend()
		g.todo.Put(n)
	}
}

// lay lays an edge, unless there is one.
func (g *graph) lay(from, to int) {
	from, to = g.parts.Find(from), g.parts.Find(to)
	if from == to || g.between[pair{from, to}] != nil {
		return
	}
	g.spend()
	g.laid++
	e := &edge{to: to}
	g.between[pair{from, to}] = e
	g.outs[from] = append(g.outs[from], e)
	g.ins[to] = append(g.ins[to], from)
	if g.has[from].Len() > 0 {
		g.todo.Put(from)
	}
}

// work lets all places of a node that have not yet done so meet its constraints, and cross its edges.
func (g *graph) work(n int) {
	for _, m := range g.meets[n] {
		for p := range g.has[n].Less(&m.met).Each() {
			m.met.Add(p)
			g.spend()
			g.meet(m, p)
		}
	}
	for i := 0; i < len(g.outs[n]); i++ {
		if g.cross(n, g.outs[n][i]) {
			return // what it is brought together with is worked on later
		}
	}
}

// cross lets places cross an edge: was its beginning brought together with its end?
func (g *graph) cross(n int, e *edge) bool {
	fresh := g.has[n].Less(&e.crossed)
	for p := range fresh.Each() {
		e.crossed.Add(p)
		g.spend()
		g.crossed++
		g.get(e.to, p)
	}
	if fresh.Len() == 0 || e.looked || !g.has[n].Same(&g.has[e.to]) {
		return false
	}
	e.looked = true
	return g.look(n, e.to)
}

// meet lets a place of a constraint's pointer meet it.
func (g *graph) meet(m *meeting, p int) {
	cell, pointer := g.cells[p]
	switch m.con.Op {
	case api.CLoad:
		if pointer {
			g.lay(cell, m.a)
		}
	case api.CStore:
		if pointer {
			g.lay(m.b, cell)
		}
	case api.CField:
		if further, ok := g.field(m.con, p); ok {
			g.get(m.a, further)
		}
	case api.CCall:
		if f, ok := g.fns[p]; ok && fits(f, m.con) {
			g.get(m.a, p)
			g.call(f, m)
		}
	}
}

// field is the place that a CField comes to from another one; false: it comes to none.
func (g *graph) field(c api.Con, p int) (int, bool) {
	o, ok := g.objs[p]
	if !ok {
		return 0, false
	}
	text, _ := g.places.At(p)
	_, k, _ := names.Object(text)
	if k+c.K >= len(o.Kinds) || !slices.Contains(o.Marks, api.Mark{At: k, Tag: c.Tag}) {
		return 0, false
	}
	return g.places.Find(names.Cell(o.Name, k+c.K))
}

// fits tells whether a function is one that a CCall calls.
func fits(f api.Fn, c api.Con) bool {
	kinds, ret, _ := strings.Cut(c.Tag, ">")
	return f.Kinds == kinds && (ret == "" || ret == f.Ret)
}

func (g *graph) call(f api.Fn, m *meeting) {
	for i, a := range m.args {
		switch {
		case a < 0:
		case i == 0:
			g.lay(g.node(formal(f, 0)), a)
		default:
			g.lay(a, g.node(formal(f, i)))
		}
	}
}

// look brings together all nodes that lead to one another with two of them, between which an edge leads: is that so?
func (g *graph) look(from, to int) bool {
	ahead := g.reach(to, func(n int) []int {
		var l []int
		for _, e := range g.outs[n] {
			l = append(l, e.to)
		}
		return l
	})
	if !ahead.Has(from) {
		return false
	}
	round := g.reach(from, func(n int) []int {
		return slices.DeleteFunc(slices.Clone(g.ins[n]), func(m int) bool { return !ahead.Has(g.parts.Find(m)) })
	})
	g.bring(round)
	return true
}

// reach are all nodes that one comes to by steps, it itself among them.
func (g *graph) reach(n int, steps func(n int) []int) *bits.Set {
	seen := bits.Of(n)
	for path := []int{n}; len(path) > 0; {
		n, path = path[len(path)-1], path[:len(path)-1]
		for _, m := range steps(n) {
			if m = g.parts.Find(m); seen.Add(m) {
				path = append(path, m)
			}
		}
	}
	return seen
}

// bring makes one node of some.
func (g *graph) bring(nodes *bits.Set) {
	first := -1
	for n := range nodes.Each() { // the first one is the least, which stands for all
		if first < 0 {
			first = n
			continue
		}
		g.parts.Join(first, n)
		g.together++
		g.has[first].Join(&g.has[n])
		g.meets[first] = append(g.meets[first], g.meets[n]...)
		g.ins[first] = append(g.ins[first], g.ins[n]...)
	}
	for n := range nodes.Each() {
		g.move(n, first)
	}
	var behind bits.Set
	for _, m := range g.ins[first] {
		behind.Add(g.parts.Find(m))
	}
	for m := range behind.Each() {
		if m != first {
			g.move(m, m)
		}
	}
	g.todo.Put(first)
}

// move lets the edges that lead from a node lead from another one, or the same, to the nodes that stand for their ends now. (Who is among ins is found by forest: they stay.)
func (g *graph) move(n, from int) {
	l := g.outs[n]
	g.outs[n] = nil
	for _, e := range l {
		delete(g.between, pair{n, e.to})
	}
	if n != from {
		g.has[n], g.meets[n], g.ins[n] = bits.Set{}, nil, nil
	}
	for _, e := range l {
		e.to = g.parts.Find(e.to)
		ends := pair{from, e.to}
		if e.to == from {
			continue
		}
		if same := g.between[ends]; same != nil { // what crossed one of the two has come to where both lead
			same.crossed.Join(&e.crossed)
			same.looked = same.looked || e.looked
			continue
		}
		g.between[ends] = e
		g.outs[from] = append(g.outs[from], e)
	}
}

func (g *graph) facts() []api.Fact {
	var l []api.Fact
	for node, n := range g.nodes.Rising() {
		fact := api.Fact{Node: node}
		for p := range g.has[g.parts.Find(n)].Each() {
			text, _ := g.places.At(p)
			fact.Locs = append(fact.Locs, text)
		}
		if len(fact.Locs) > 0 {
			l = append(l, fact)
		}
	}
	return l
}
