package bits

import (
	"slices"
	"testing"

	"weft/api"
)

func list(s *Set) []int { return slices.Collect(s.Each()) }

func is(t *testing.T, what string, s *Set, want ...int) {
	t.Helper()
	if got := list(s); !slices.Equal(got, want) {
		t.Errorf("%s: %v, not %v", what, got, want)
	}
	if s.Len() != len(want) {
		t.Errorf("%s: %d members, not %d", what, s.Len(), len(want))
	}
}

func TestOf(t *testing.T) { // 4.1
	given := []int{70, 3, -1, 3, api.MaxCount + 1, api.MaxCount, 0, 63, 64, -64}
	s := Of(given...)
	is(t, "of", s, 0, 3, 63, 64, 70, api.MaxCount)
	if given[0] != 70 || given[9] != -64 {
		t.Error("the list is another one now")
	}
	is(t, "of none", Of())
	is(t, "example", Of(3, 70, 3), 3, 70)
}

func TestAdd(t *testing.T) { // 4.1
	var s Set
	is(t, "zero", &s)
	for _, c := range []struct {
		n    int
		want bool
	}{{5, true}, {5, false}, {-1, false}, {api.MaxCount + 1, false}, {api.MaxCount, true}, {0, true}, {1 << 40, false}, {200, true}, {100, true}, {-1 << 63, false}} {
		if s.Add(c.n) != c.want {
			t.Errorf("Add(%d) is not %v", c.n, c.want)
		}
	}
	is(t, "added", &s, 0, 5, 100, 200, api.MaxCount)
	for n, want := range map[int]bool{0: true, 1: false, 5: true, 69: false, 100: true, 164: false, api.MaxCount: true, -1: false, -64: false, 1 << 40: false} {
		if s.Has(n) != want {
			t.Errorf("Has(%d) is not %v", n, want)
		}
	}
}

func TestEach(t *testing.T) { // 4.1
	s := Of(1, 65, 2)
	each := s.Each()
	var got []int
	for n := range each {
		s.Add(n + 1000) // it was not there when this began
		got = append(got, n)
	}
	if !slices.Equal(got, []int{1, 2, 65}) {
		t.Errorf("%v", got)
	}
	got = nil
	for n := range each {
		if got = append(got, n); n == 65 {
			break
		}
	}
	if !slices.Equal(got, []int{1, 2, 65}) {
		t.Errorf("%v", got)
	}
	if got := slices.Collect(each); !slices.Equal(got, []int{1, 2, 65, 1001, 1002, 1065}) {
		t.Errorf("as it is when it begins: %v", got)
	}
	calls := 0
	each(func(int) bool { calls++; return false })
	if calls != 1 {
		t.Errorf("%d calls behind a false", calls)
	}
}

func TestJoin(t *testing.T) { // 4.2
	s, o := Of(1, 2, 500), Of(2, 3, 64)
	if n := s.Join(o); n != 2 {
		t.Errorf("%d new", n)
	}
	is(t, "joined", s, 1, 2, 3, 64, 500)
	is(t, "the other one", o, 2, 3, 64)
	o.Add(9)
	s.Add(65)
	is(t, "joined, later", s, 1, 2, 3, 64, 65, 500)
	is(t, "the other one, later", o, 2, 3, 9, 64)
	if n := s.Join(s); n != 0 {
		t.Errorf("%d new of its own", n)
	}
	if n := s.Join(nil); n != 0 {
		t.Errorf("%d new of nil", n)
	}
	if n := Of(1, 2).Join(Of(2, 3)); n != 1 {
		t.Errorf("%d", n)
	}
}

func TestLessBoth(t *testing.T) { // 4.2
	s, o := Of(1, 2, 70, 300), Of(2, 70, 71, 1000)
	is(t, "less", s.Less(o), 1, 300)
	is(t, "both", s.Both(o), 2, 70)
	is(t, "less nil", s.Less(nil), 1, 2, 70, 300)
	is(t, "both nil", s.Both(nil))
	is(t, "less itself", s.Less(s))
	if n := s.Less(s).Blocks(); n != 0 {
		t.Errorf("%d blocks without a number", n)
	}
	l := s.Less(nil)
	l.Add(4)
	is(t, "as it was", s, 1, 2, 70, 300)
}

func TestSame(t *testing.T) { // 4.2
	var none *Set
	if !Of(1, 70).Same(Of(70, 1)) || Of(1).Same(Of(1, 70)) || Of(1).Same(Of(2)) || !none.Same(Of()) || !Of().Same(none) || none.Same(Of(1)) || !Of(1).Less(Of(1)).Same(none) {
		t.Error("not the same")
	}
	for _, c := range []struct{ blocks, of int }{{Of(3, 70, 3).Blocks(), 2}, {Of(0, 63).Blocks(), 1}, {Of(63, 64).Blocks(), 2}, {Of().Blocks(), 0}, {Of(api.MaxCount).Blocks(), 1}} {
		if c.blocks != c.of {
			t.Errorf("%d blocks, not %d", c.blocks, c.of)
		}
	}
}

func TestFollows(t *testing.T) { // 4.3
	seed := 1
	next := func() int { seed = (seed*1103515245 + 12345) % (1 << 31); return seed >> 8 % 1000 }
	for range 200 {
		var a, b []int
		for range 20 {
			a, b = append(a, next()%400), append(b, next()%400)
		}
		x, y := Of(a...), Of(b...)
		x.Join(Of(b...))
		y.Join(Of(a...))
		if !x.Same(y) {
			t.Fatalf("joined both ways: %v, %v", list(x), list(y))
		}
		s, o := Of(a...), Of(b...)
		less, both := s.Less(o), s.Both(o)
		if less.Both(both).Len() != 0 || less.Len()+both.Len() != s.Len() {
			t.Fatalf("less %v, both %v of %v, %v", list(less), list(both), list(s), list(o))
		}
		for n := range 400 {
			in := slices.Contains(a, n)
			if s.Has(n) != in || less.Has(n) != (in && !slices.Contains(b, n)) || both.Has(n) != (in && slices.Contains(b, n)) {
				t.Fatalf("%d of %v, %v", n, a, b)
			}
		}
	}
}

func TestNil(t *testing.T) { // 4.1, 4.2, P1
	var s *Set
	if s.Add(1) || s.Has(1) || s.Has(-1) || s.Len() != 0 || s.Join(Of(1)) != 0 || s.Blocks() != 0 || s.Less(Of(1)).Len() != 0 || s.Both(Of(1)).Len() != 0 {
		t.Error("a nil set has some")
	}
	for range s.Each() {
		t.Error("a nil set has some")
	}
	s.Less(s).Add(1)
	s.Both(s).Add(1)
}
