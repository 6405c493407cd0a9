package tarjan

import (
	"reflect"
	"slices"
	"testing"
)

func TestParts(t *testing.T) { // 7.1
	for _, c := range []struct {
		n    int
		l    []Edge
		want [][]int
	}{
		{4, []Edge{{0, 1}, {1, 2}, {2, 1}, {3, 0}}, [][]int{{1, 2}, {0}, {3}}},
		{3, nil, [][]int{{0}, {1}, {2}}},
		{0, []Edge{{0, 0}}, nil}, {-5, nil, nil}, {20001, nil, nil},
		{2, []Edge{{0, 1}, {0, 1}, {5, 0}, {0, 2}, {-1, 1}, {1, -1}}, [][]int{{1}, {0}}},
		{3, []Edge{{0, 2}, {1, 1}}, [][]int{{1}, {2}, {0}}},                               // 2 and 1 could be next
		{5, []Edge{{0, 4}, {4, 0}, {1, 3}, {3, 1}, {0, 3}}, [][]int{{1, 3}, {0, 4}, {2}}}, // then 0 4 stands ahead of 2
		{6, []Edge{{5, 0}, {0, 5}, {1, 5}, {2, 1}, {1, 2}, {4, 3}}, [][]int{{0, 5}, {1, 2}, {3}, {4}}},
	} {
		if got := Parts(c.n, c.l); len(got)+len(c.want) > 0 && !reflect.DeepEqual(got, c.want) {
			t.Errorf("Parts(%d, %v): %v, not %v", c.n, c.l, got, c.want)
		}
	}
}

func TestLeads(t *testing.T) { // 7.2
	l := []Edge{{0, 1}, {1, 2}, {2, 1}, {3, 0}, {4, 9}}
	for _, c := range []struct {
		n          int
		from, want []int
	}{{5, []int{0}, []int{0, 1, 2}}, {5, []int{2, 2, 4}, []int{1, 2, 4}}, {5, []int{-1, 5}, nil}, {5, nil, nil}, {20001, []int{0}, nil}, {1, []int{0, 1}, []int{0}}} {
		if got := Leads(c.n, l, c.from); !slices.Equal(got, c.want) {
			t.Errorf("Leads(%d, %v): %v", c.n, c.from, got)
		}
	}
}

func TestRound(t *testing.T) { // 7.2
	for _, c := range []struct {
		n    int
		l    []Edge
		want bool
	}{{3, []Edge{{0, 1}, {1, 2}, {0, 2}}, false}, {3, []Edge{{0, 1}, {1, 2}, {2, 0}}, true}, {3, []Edge{{1, 1}}, true}, {1, []Edge{{1, 1}}, false}, {20001, []Edge{{0, 0}}, false}, {0, nil, false}} {
		if Round(c.n, c.l) != c.want {
			t.Errorf("Round(%d, %v) is not %v", c.n, c.l, c.want)
		}
	}
}

// slow is the parts by their definition.
func slow(n int, l []Edge) [][]int {
	leads := make([][]int, n)
	for m := range n {
		leads[m] = Leads(n, l, []int{m})
	}
	done := make([]bool, n)
	var parts [][]int
	for range n {
		for m := range n {
			part, ready := []int{}, !done[m]
			for _, to := range leads[m] {
				if slices.Contains(leads[to], m) {
					part = append(part, to)
				} else if !done[to] {
					ready = false
				}
			}
			if ready {
				for _, p := range part {
					done[p] = true
				}
				parts = append(parts, part)
				break
			}
		}
	}
	return parts
}

func TestDefinition(t *testing.T) { // 7.1, 7.3
	seed := 7
	next := func(n int) int { seed = (seed*1103515245 + 12345) % (1 << 31); return seed >> 8 % n }
	for range 300 {
		n := 1 + next(9)
		var l []Edge
		before := n
		for range next(14) {
			l = append(l, Edge{next(n), next(n)})
			got := Parts(n, l)
			if want := slow(n, l); !reflect.DeepEqual(got, want) {
				t.Fatalf("Parts(%d, %v): %v, not %v", n, l, got, want)
			}
			if len(got) > before || len(got) == n && slices.ContainsFunc(got, func(p []int) bool { return len(p) != 1 }) {
				t.Fatalf("more edges make more parts: %v", got)
			}
			before = len(got)
			self := slices.ContainsFunc(l, func(e Edge) bool { return e.From == e.To })
			if Round(n, l) != (self || len(got) < n) {
				t.Fatalf("Round(%d, %v)", n, l)
			}
		}
	}
}

func TestLarge(t *testing.T) { // P1
	var l []Edge
	for i := range 19999 {
		l = append(l, Edge{i, i + 1})
	}
	if p := Parts(20000, l); len(p) != 20000 || p[0][0] != 19999 {
		t.Errorf("%d parts", len(p))
	}
	if p := Parts(20000, append(l, Edge{19999, 0})); len(p) != 1 || len(p[0]) != 20000 {
		t.Errorf("%d parts", len(p))
	}
}
