package machine

import (
	"slices"
	"strings"
	"testing"

	"weft/api"
	"weft/least"
	"weft/parse"
	"weft/samples"
)

func read(t *testing.T, s string) api.Module {
	t.Helper()
	m, line, e := parse.Module(s)
	if e != api.OK {
		t.Fatalf("line %d: %v of %s", line, e, s)
	}
	return m
}

func machine(t *testing.T, s string, input, choices []int) *Machine {
	t.Helper()
	var l []api.Module
	for _, x := range strings.Split(s, "|") {
		l = append(l, read(t, x))
	}
	m, e := New(l, input, choices)
	if e != api.OK {
		t.Fatalf("%v of %s", e, s)
	}
	return m
}

// seen are facts as a text.
func seen(l []api.Fact) string {
	var all []string
	for _, f := range l {
		all = append(all, f.Node+": "+strings.Join(f.Locs, " "))
	}
	return strings.Join(all, "; ")
}

func TestNew(t *testing.T) { // 35.1
	for i, c := range []struct {
		l string
		e api.Errno
	}{
		{"module a; fn main() { p = null; } | module b; fn f() { return x; }", api.ErrNone}, {"module a; extern fn f(); fn main(i int) { }", api.ErrNone}, {"module a; fn main() { } | module b; fn main() { }", api.ErrTwice},
		{"module a; fn f() { }", api.ErrNone}, {"module a; global main int;", api.ErrNone}, {"module a; fn main(i int) { }", api.ErrArity}, {"module a; static fn main() int { }", api.OK}, {"module a; extern fn f(); fn main() { } | module b; fn f() { }", api.OK},
	} {
		var l []api.Module
		for _, x := range strings.Split(c.l, "|") {
			l = append(l, read(t, x))
		}
		if m, e := New(l, nil, nil); e != c.e || (m == nil) != (e != api.OK) {
			t.Errorf("%d: %v, not %v", i, e, c.e)
		}
	}
	if m, e := New(nil, nil, nil); m != nil || e != api.ErrNone {
		t.Errorf("%v", e)
	}
	m := machine(t, "module a; global g ptr; global h int; fn main() { obj o int; obj x ptr; } fn f() { obj z int; }", nil, nil)
	if n, alive := m.Live(); n != 4 || alive != 4 || m.Depth() != 1 || m.Trap() != api.OK || len(m.Seen()) != 0 {
		t.Errorf("%d, %d, %d", n, alive, m.Depth())
	}
}

func TestExample(t *testing.T) {
	m := machine(t, "module a; fn main() { var p ptr; var q ptr; obj x ptr; p = addr x; q = load p; }", nil, nil)
	if n, e := m.Run(10); n != 2 || e != api.ErrEnd || seen(m.Seen()) != "main.p: main%x+0" {
		t.Errorf("%d, %v, %s", n, e, seen(m.Seen()))
	}
}

// head is a program up to main's statements.
const head = `module a; struct S { a int; b [3]ptr; c struct T; } struct T { d ptr; e int; }
global g struct S; global n int; global k [4]struct T; global b [2][3]ptr;
fn f(p ptr, j int) ptr { obj o ptr; store p p; return p; }
fn none() { }
fn num(i int) int { return i; }
fn dead() ptr { var p ptr; obj o ptr; p = addr o; return p; }
fn main() { var p ptr; var q ptr; var r ptr; var i int; var j int; var z int; obj x ptr; obj y int; obj none int; `

func TestStatements(t *testing.T) { // 35, each statement, each trap
	for _, c := range []struct {
		s     string
		steps int
		e     api.Errno
		seen  string
	}{
		{"p = addr g; p = addr main; p = addr x; p = addr none;", 4, api.ErrEnd, "main.p: g+0 main%none+0 main%x+0 main()"},
		{"p = addr x; q = copy p; p = null; r = copy p; i = isnull q; i = isnull p; if i { r = addr n; }", 8, api.ErrEnd, "main.p: main%x+0; main.q: main%x+0; main.r: n+0"},
		// numbers
		{"i = 3; j = 5; z = less i j; if z { p = addr x; } z = less j i; if z { q = addr x; } z = less i i; if z { q = addr x; } ", 9, api.ErrEnd, "main.p: main%x+0"},
		{"i = 3; j = plus i i; j = minus j i; j = times j j; j = minus j i; j = minus j i; z = less j i; if z { } else { p = addr x; } j = minus j i; if j { q = addr x; }", 11, api.ErrEnd, "main.p: main%x+0"},
		{"i = 268435456; i = times i i; i = times i i; if i { p = addr x; }", 4, api.ErrEnd, ""},
		{"i = input; j = input; z = minus i j; z = less z i; if z { p = addr x; } i = input; if i { q = addr x; }", 8, api.ErrEnd, "main.p: main%x+0"},
		// loads and stores
		{"p = addr x; q = addr g; store p q; r = load p;", 4, api.ErrEnd, "main%x+0: g+0; main.p: main%x+0; main.q: g+0; main.r: g+0"},
		{"p = addr y; i = 7; store p i; j = load p; if j { q = addr x; }", 6, api.ErrEnd, "main.p: main%y+0; main.q: main%x+0"},
		{"q = load p;", 0, api.ErrNull, ""}, {"store p i;", 0, api.ErrNull, ""}, {"p = addr f; q = load p;", 1, api.ErrType, "main.p: f()"}, {"p = addr f; store p p;", 1, api.ErrType, "main.p: f()"}, {"p = addr y; q = load p;", 1, api.ErrType, "main.p: main%y+0"}, {"p = addr x; i = load p;", 1, api.ErrType, "main.p: main%x+0"}, {"p = addr y; store p p;", 1, api.ErrType, "main.p: main%y+0"}, {"p = addr x; store p i;", 1, api.ErrType, "main.p: main%x+0"},
		{"p = call dead(); q = load p;", 3, api.ErrDead, "dead$0: dead%o+0; dead.p: dead%o+0; main.p: dead%o+0"}, {"p = call dead(); i = load p;", 3, api.ErrDead, "dead$0: dead%o+0; dead.p: dead%o+0; main.p: dead%o+0"}, {"p = call dead(); store p p;", 3, api.ErrDead, "dead$0: dead%o+0; dead.p: dead%o+0; main.p: dead%o+0"},
		// members and elements
		{"p = addr g; p = member p S c; q = member p T e; i = load q; p = member p T d; p = load p;", 6, api.ErrEnd, "main.p: g+0 g+2; main.q: g+3"},
		{"p = addr g; p = member p S b; i = 2; q = index p ptr i; i = -1; q = index q ptr i; i = -2; q = index q ptr i;", 7, api.ErrBound, "main.p: g+0 g+1; main.q: g+1"},
		{"p = addr g; p = member p S b; i = 3; q = index p ptr i;", 3, api.ErrBound, "main.p: g+0 g+1"}, {"p = addr g; p = member p S b; q = index p int i;", 2, api.ErrBound, "main.p: g+0 g+1"}, {"p = addr g; q = index p ptr i;", 1, api.ErrBound, "main.p: g+0"}, {"p = addr g; q = member p T d;", 1, api.ErrBound, "main.p: g+0"}, {"p = addr g; p = member p S c; q = member p S a;", 2, api.ErrBound, "main.p: g+0 g+2"},
		{"p = addr k; i = 3; p = index p struct T i; p = member p T e; j = load p; i = -1; p = index p struct T i;", 6, api.ErrBound, "main.p: k+0 k+1"}, {"p = addr k; q = member p T e; i = load q; p = member p T d; q = load p;", 5, api.ErrEnd, "main.p: k+0; main.q: k+1"},
		{"p = addr b; i = 1; p = index p [3]ptr i; i = 2; p = index p ptr i; store p p; i = -3; p = index p ptr i;", 7, api.ErrBound, "b+0: b+0; main.p: b+0"}, {"p = addr b; i = 9; j = 268435456; j = times j j; j = times j i; p = index p ptr j;", 5, api.ErrBound, "main.p: b+0"},
		{"p = member q S a;", 0, api.ErrNull, ""}, {"p = index q ptr i;", 0, api.ErrNull, ""}, {"p = addr f; p = member p S a;", 1, api.ErrType, "main.p: f()"}, {"p = call dead(); q = index p ptr i;", 3, api.ErrDead, "dead$0: dead%o+0; dead.p: dead%o+0; main.p: dead%o+0"},
		// objects on the heap
		{"p = new struct S; p = member p S c; q = new ptr; r = new int; free p; free r; free q;", 7, api.ErrEnd, "main.p: main#1+0 main#1+2; main.q: main#3+0; main.r: main#4+0"},
		{"p = new ptr; free p; q = load p;", 2, api.ErrDead, "main.p: main#1+0"}, {"p = new ptr; free p; free p;", 2, api.ErrDead, "main.p: main#1+0"}, {"free p; p = addr x; free p;", 2, api.ErrKind, "main.p: main%x+0"}, {"p = addr f; free p;", 1, api.ErrType, "main.p: f()"}, {"p = addr g; free p;", 1, api.ErrKind, "main.p: g+0"},
		// calls
		{"p = addr x; q = call f(p, i);", 4, api.ErrEnd, "f$0: main%x+0; f$1: main%x+0; main%x+0: main%x+0; main.p: main%x+0; main.q: main%x+0"},
		{"p = addr f; q = addr x; r = icall p(q, i);", 5, api.ErrEnd, "f$0: main%x+0; f$1: main%x+0; main%x+0: main%x+0; main.p: f(); main.q: main%x+0; main.r: main%x+0; main@3: f()"},
		{"if i { } else { p = addr none; } p = addr dead; icall p();", 6, api.ErrEnd, "dead$0: dead%o+0; dead.p: dead%o+0; main.p: dead() main%none+0; main@4: dead()"},
		{"icall p();", 0, api.ErrNull, ""}, {"p = addr x; icall p();", 1, api.ErrType, "main.p: main%x+0"}, {"p = addr f; icall p(p);", 1, api.ErrArity, "main.p: f()"}, {"p = addr f; icall p(p, p);", 1, api.ErrArity, "main.p: f()"}, {"p = addr f; i = icall p(p, i);", 1, api.ErrArity, "main.p: f()"}, {"p = addr main; i = icall p();", 1, api.ErrArity, "main.p: main()"}, {"p = addr f; icall p();", 1, api.ErrArity, "main.p: f()"}, {"p = addr num; icall p(i, i);", 1, api.ErrArity, "main.p: num()"},
		{"i = 4; j = call num(i); i = minus i j; if i { p = addr x; } call none(); p = addr num; j = icall p(j);", 9, api.ErrEnd, "main.p: num(); main@8: num()"},
		{"return;", 1, api.ErrEnd, ""}, {"if i { p = addr x; } return; p = addr x;", 2, api.ErrEnd, ""},
		// while
		{"i = 3; j = 1; while i { i = minus i j; } p = addr x;", 10, api.ErrEnd, "main.p: main%x+0"}, {"i = 1; while i { while i { i = minus i i; } }", 6, api.ErrEnd, ""}, {"while i { p = addr x; }", 1, api.ErrEnd, ""},
	} {
		text := head + c.s + " }"
		m := machine(t, text, []int{1 << 62, -1 << 62}, nil)
		n, e := m.Run(1000)
		if n != c.steps || e != c.e || seen(m.Seen()) != c.seen {
			t.Errorf("%s: %d, %v, %s", c.s, n, e, seen(m.Seen()))
		}
		if trap := m.Trap(); c.e == api.ErrEnd && trap != api.OK || c.e != api.ErrEnd && trap != c.e {
			t.Errorf("%s: trap %v", c.s, trap)
		}
		if e := m.Step(); e != api.ErrEnd {
			t.Errorf("%s: %v behind the end", c.s, e)
		}
	}
}

func TestSame(t *testing.T) { // 35: which pointers are the same
	for s, want := range map[string]bool{"p = addr x; q = addr x;": true, "p = addr x; q = addr y;": false, "p = addr f; q = addr f;": true, "p = addr f; q = addr num;": false, "": true, "p = addr x;": false, "p = new int; q = new int;": false, "p = addr b; i = 1; q = index p [3]ptr i;": false, "p = addr b; q = index p [3]ptr i;": true, "p = addr b; q = index p ptr i;": true} {
		m := machine(t, head+s+" i = same p q; if i { r = addr n; } }", nil, nil)
		m.Run(100)
		if got := len(least.Of(m.Seen(), "main.r")) > 0; got != want {
			t.Errorf("%s: %v", s, got)
		}
	}
}

func TestLife(t *testing.T) { // 35.2, 35.3: functions behind their last statement end when the next step is done
	m := machine(t, "module a; global g int; fn f(i int) { obj o int; var z int; if i { z = 1; } } fn main() { var i int; obj x int; i = 1; call f(i); i = 0; }", nil, nil)
	for step, want := range [][3]int{{1, 2, 2}, {1, 2, 2}, {2, 3, 3}, {2, 3, 3}, {2, 3, 3}, {1, 3, 2}} {
		n, alive := m.Live()
		if m.Depth() != want[0] || n != want[1] || alive != want[2] {
			t.Errorf("step %d: %d within one another, %d objects, %d alive", step, m.Depth(), n, alive)
		}
		e := m.Step()
		if wanted := map[bool]api.Errno{true: api.OK, false: api.ErrEnd}[step < 5]; e != wanted {
			t.Errorf("step %d: %v", step, e)
		}
	}
	if n, alive := m.Live(); m.Depth() != 0 || n != 3 || alive != 1 || m.Trap() != api.OK {
		t.Errorf("%d, %d, %d", m.Depth(), n, alive)
	}
}

func TestFresh(t *testing.T) { // 35: each call has objects of its own, and variables that are null
	m := machine(t, "module a; global g ptr; fn f() { var p ptr; var q ptr; obj o ptr; var i int; i = isnull p; if i { } else { q = addr g; } p = addr o; q = load p; i = isnull q; if i { } else { q = addr g; } store p p; } fn main() { call f(); call f(); }", nil, nil)
	if n, e := m.Run(100); n != 16 || e != api.ErrEnd || seen(m.Seen()) != "f%o+0: f%o+0; f.p: f%o+0" {
		t.Errorf("%d, %v, %s", n, e, seen(m.Seen()))
	}
}

func TestReturned(t *testing.T) { // 35: behind the last statement 0 or null is returned
	m := machine(t, "module a; fn f() ptr { } fn k() int { } fn main() { var p ptr; var i int; obj x int; p = addr x; p = call f(); i = 5; i = call k(); if i { p = addr x; } p = load p; }", nil, nil)
	if n, e := m.Run(100); n != 5 || e != api.ErrNull || m.Depth() != 1 {
		t.Errorf("%d, %v", n, e)
	}
}

func TestLimits(t *testing.T) { // 35
	m := machine(t, "module a; fn main() { call main(); }", nil, nil)
	if n, e := m.Run(1000); n != 49 || e != api.ErrDeep || m.Depth() != 50 {
		t.Errorf("%d, %v, %d", n, e, m.Depth())
	}
	loop := "module a; fn main() { var p ptr; var i int; i = 1; while i { p = new int; } }"
	m = machine(t, loop, nil, nil)
	if n, e := m.Run(2000); n != 1002 || e != api.ErrFull {
		t.Errorf("%d, %v", n, e)
	}
	if n, alive := m.Live(); n != 500 || alive != 500 {
		t.Errorf("%d, %d", n, alive)
	}
	m = machine(t, loop, nil, slices.Repeat([]int{1}, 400))
	if n, e := m.Run(2000); n != 1802 || e != api.ErrFull {
		t.Errorf("%d, %v", n, e)
	}
	m = machine(t, "module a; fn f() { "+objs(20)+" } fn main() { var i int; i = 1; while i { call f(); } }", nil, nil)
	if n, e := m.Run(2000); n != 52 || e != api.ErrFull || m.Depth() != 1 {
		t.Errorf("%d, %v", n, e)
	}
	m = machine(t, "module a; fn main() { var i int; i = 1; while i { } }", nil, nil)
	if n, e := m.Run(1 << 40); n != 100000 || e != api.OK {
		t.Errorf("%d, %v", n, e)
	}
	if n, e := m.Run(-1); n != 0 || e != api.OK {
		t.Errorf("%d, %v", n, e)
	}
	if n, e := m.Run(7); n != 7 || e != api.OK {
		t.Errorf("%d, %v", n, e)
	}
}

func objs(n int) string {
	s := ""
	for i := range n {
		s += "obj o" + string(rune('a'+i)) + " int; "
	}
	return s
}

func TestModules(t *testing.T) { // 35.1: a program in modules; choices and input are its own
	input, choices := []int{5, 6}, []int{0, 1}
	m := machine(t, "module a; extern global g ptr; extern fn f(ptr) ptr; fn main() { var p ptr; var q ptr; var i int; i = input; i = input; p = new ptr; q = new ptr; p = call f(p); p = addr g; } | module b; global g ptr; fn f(p ptr) ptr { var q ptr; q = addr g; store q p; return q; }", input, choices)
	input[1], choices[1] = 0, 0
	if n, e := m.Run(100); n != 9 || e != api.ErrEnd || seen(m.Seen()) != "f$0: g+0; f$1: main#3+0; f.q: g+0; g+0: main#3+0; main.p: g+0 main#3+0" {
		t.Errorf("%d, %v, %s", n, e, seen(m.Seen()))
	}
	m.Seen()[0].Locs[0] = "?"
	if m.Seen()[0].Locs[0] != "g+0" {
		t.Error("what is seen is its own")
	}
}

func TestPassedOver(t *testing.T) { // 35, P1: statements that no If, and no While, has within are neither numbered nor done
	m := read(t, "module a; fn main() { var p ptr; var q ptr; var i int; i = 1; while i { q = copy p; i = 0; } p = new int; }")
	body := m.Funcs[0].Body
	round := []api.Stmt{{Op: api.New, Dst: "q", Type: api.Type{Kind: api.Int}}, {Op: api.Copy, Dst: "p", A: "q"}}
	round[1].Then, round[1].Else = round, round
	body[0].Then, body[1].Else, body[1].Then[0].Then, body[1].Then[1].Else = round, round, round, body
	x, e := New([]api.Module{m}, nil, nil)
	if e != api.OK {
		t.Fatal(e)
	}
	if n, e := x.Run(100); n != 6 || e != api.ErrEnd || seen(x.Seen()) != "main.p: main#5+0" {
		t.Errorf("%d, %v, %s", n, e, seen(x.Seen()))
	}
}

func TestNil(t *testing.T) { // 35.2, P1
	for _, m := range []*Machine{nil, {}} {
		if e := m.Step(); e != api.ErrEnd {
			t.Errorf("%v", e)
		}
		if n, e := m.Run(5); n != 0 || e != api.ErrEnd {
			t.Errorf("%d, %v", n, e)
		}
		a, b := m.Live()
		if len(m.Seen()) != 0 || m.Trap() != api.OK || m.Depth() != 0 || a+b != 0 {
			t.Error("there is something")
		}
	}
}

func TestSteps(t *testing.T) { // 35.2: Run is Step again and again
	ended := map[api.Errno]int{}
	for seed := range 300 {
		p := []api.Module{samples.Program(seed)}
		src := samples.From(seed)
		input, choices := src.Numbers(20), []int{0, 0, 1, 0, 0, 1}
		a, e := New(p, input, choices)
		b, _ := New(p, input, choices)
		if e != api.OK {
			t.Fatal(e)
		}
		n, last := a.Run(300)
		for i := range n {
			if e := b.Step(); e != api.OK {
				t.Errorf("%d: step %d: %v", seed, i, e)
			}
		}
		if n < 300 {
			if e := b.Step(); e != last {
				t.Errorf("%d: %v, not %v", seed, e, last)
			}
		}
		if !least.Same(a.Seen(), b.Seen()) || a.Trap() != b.Trap() || a.Depth() != b.Depth() {
			t.Errorf("%d: not the same", seed)
		}
		ended[last]++
	}
	if len(ended) < 4 {
		t.Errorf("%v: little was asked", ended)
	}
	t.Log(ended)
}
