package solve

import (
	"strconv"
	"testing"

	"weft/api"
	"weft/least"
	"weft/names"
	"weft/samples"
	"weft/system"
)

func con(op int, a, b string) api.Con { return api.Con{Op: op, A: a, B: b} }

func canon(cons ...api.Con) api.System {
	return system.Canon(api.System{Objs: []api.Obj{{Name: "x", Kinds: "p"}, {Name: "y", Kinds: "i"}}, Fns: []api.Fn{{Name: "f()", Kinds: "p", Ret: "p"}}, Cons: cons})
}

func TestExamples(t *testing.T) { // 18.1, 18.3: what is taken where no other order could be
	for i, c := range []struct {
		s                       api.System
		taken                   int
		together, laid, crossed int
	}{
		{canon(), 0, 0, 0, 0},
		{canon(con(api.CAddr, "m.p", "x+0"), con(api.CAddr, "m.p", "y+0")), 2, 0, 0, 0},
		{canon(con(api.CCopy, "m.q", "m.p"), con(api.CCopy, "m.p", "m.p")), 1, 0, 1, 0},
		{canon(con(api.CAddr, "m.p", "x+0"), con(api.CCopy, "m.q", "m.p")), 4, 0, 1, 1},
		{canon(con(api.CAddr, "m.p", "x+0"), con(api.CCopy, "m.q", "m.p"), con(api.CCopy, "m.p", "m.q")), 5, 1, 2, 1},
		{canon(con(api.CAddr, "m.p", "x+0"), con(api.CLoad, "m.q", "m.p")), 3, 0, 1, 0},
		{canon(con(api.CAddr, "m.p", "y+0"), con(api.CStore, "m.p", "m.q"), con(api.CLoad, "m.q", "m.p")), 3, 0, 0, 0},
		{canon(con(api.CAddr, "m.p", "f()"), api.Con{Op: api.CCall, A: "m@1", B: "m.p", Tag: "p>p", Args: []string{"m.q", "m.r"}}), 5, 0, 2, 0},
	} {
		l, taken, e := Facts(c.s, Enough(c.s), nil)
		want, _ := least.Facts(c.s)
		if taken != c.taken || e != api.OK || !least.Same(l, want) {
			t.Errorf("%d: %v, %d, %v", i, l, taken, e)
		}
		if together, laid, crossed := Stats(c.s, nil); together != c.together || laid != c.laid || crossed != c.crossed {
			t.Errorf("%d: %d, %d, %d", i, together, laid, crossed)
		}
	}
}

func TestErrors(t *testing.T) { // 18.1, 18.2, 18.3
	wrong := api.System{Cons: []api.Con{{}}}
	if l, n, e := Facts(wrong, -1, nil); len(l) != 0 || n != 0 || e != api.ErrKind {
		t.Errorf("%v, %d, %v", l, n, e)
	}
	if l, n, e := Facts(canon(), -1, nil); len(l) != 0 || n != 0 || e != api.ErrRange {
		t.Errorf("%v, %d, %v", l, n, e)
	}
	if l, n, e := Facts(canon(), 0, nil); len(l) != 0 || n != 0 || e != api.OK {
		t.Errorf("%v, %d, %v", l, n, e)
	}
	if l, n, e := Facts(canon(con(api.CAddr, "m.p", "x+0")), 0, nil); len(l) != 0 || n != 0 || e != api.ErrFuel {
		t.Errorf("%v, %d, %v", l, n, e)
	}
	if a, b, c := Stats(wrong, nil); a != 0 || b != 0 || c != 0 || Enough(wrong) != 0 {
		t.Error("of a system that may not be")
	}
}

func TestEnough(t *testing.T) { // 18.2
	for i, c := range []struct {
		s    api.System
		want int
	}{
		{api.System{}, 1},
		{system.Canon(api.System{Objs: []api.Obj{{Name: "x", Kinds: "i"}}, Cons: []api.Con{con(api.CAddr, "f.p", "x+0")}}), 27},
		{system.Canon(api.System{Objs: []api.Obj{{Name: "x", Kinds: "p"}}, Cons: []api.Con{con(api.CAddr, "f.p", "x+0")}}), 27},
		{canon(), 6 * 6 * 6},                             // x+0, y+0, f(), f$0, f$1, and one
		{canon(con(api.CCopy, "f$0", "f$1")), 8 * 8 * 8}, // the Formals once as nodes, once as Formals
		{canon(con(api.CLoad, "m.p", "m.q"), con(api.CStore, "m.p", "m.q")), 10 * 10 * 10},
	} {
		if n := Enough(c.s); n != c.want {
			t.Errorf("%d: %d, not %d", i, n, c.want)
		}
	}
}

func TestSamples(t *testing.T) { // 18.1, 18.2, 18.3
	for seed := range 600 {
		s := samples.System(seed)
		want, _ := least.Facts(s)
		for turn := range 3 {
			var picks []int
			if turn > 0 {
				picks = samples.From(seed + turn).Numbers(60)
			}
			l, taken, e := Facts(s, Enough(s), picks)
			if e != api.OK || !least.Same(l, want) || taken > Enough(s) {
				t.Fatalf("%d: %v, %d taken\n%v\n%v", seed, e, taken, l, want)
			}
			if again, n, e := Facts(s, taken, picks); e != api.OK || n != taken || !least.Same(again, want) {
				t.Errorf("%d: %v, %d of %d", seed, e, n, taken)
			}
			for _, less := range []int{taken - 1, taken / 2, 0} {
				if less >= 0 && less < taken {
					if l, n, e := Facts(s, less, picks); e != api.ErrFuel || n != 0 || len(l) != 0 {
						t.Errorf("%d: %v, %d of %d", seed, e, less, taken)
					}
				}
			}
			if together, laid, crossed := Stats(s, picks); together > taken || laid+crossed > taken {
				t.Errorf("%d: %d, %d, %d of %d", seed, together, laid, crossed, taken)
			}
		}
	}
}

// ring has nodes that lead round, and back from their middle.
func ring(n int) api.System {
	var s api.System
	v := func(i int) string { return names.Of(names.Var, "f", "v"+strconv.Itoa(i%n), 0) }
	for i := range n {
		s.Cons = append(s.Cons, con(api.CCopy, v(i+1), v(i)))
		if i%7 == 0 {
			s.Cons = append(s.Cons, con(api.CAddr, v(i), names.Cell("g"+strconv.Itoa(i), 0)))
		}
		if i%5 == 0 {
			s.Cons = append(s.Cons, con(api.CCopy, v(i), v(i+n/2)))
		}
	}
	return system.Canon(s)
}

func TestTogether(t *testing.T) { // 18: what leads round is one node, which saves fuel
	s := ring(100)
	want, _ := least.Facts(s)
	for _, picks := range [][]int{nil, samples.From(1).Numbers(500)} {
		l, taken, e := Facts(s, Enough(s), picks)
		if e != api.OK || !least.Same(l, want) {
			t.Errorf("%v, %d", e, taken)
		}
		if together, laid, _ := Stats(s, picks); together != 99 || laid != 120 {
			t.Errorf("%d together, %d edges", together, laid)
		}
	}
}

func TestLarge(t *testing.T) { // P1
	s := ring(4000)
	l, _, e := Facts(s, Enough(s), nil)
	if e != api.OK || len(l) != 4000 {
		t.Errorf("%v, %d facts", e, len(l))
	}
}
