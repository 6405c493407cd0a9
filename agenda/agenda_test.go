package agenda

import (
	"slices"
	"testing"
)

func TestPicks(t *testing.T) { // 8.1
	l := []int{3, -1, 0, 7}
	p := Of(l)
	l[0], l[3] = 9, 9
	for _, want := range []int{3, -1, 0, 7, 0, 0} {
		if n := p.Next(); n != want {
			t.Errorf("%d, not %d", n, want)
		}
	}
	var none *Picks
	if none.Next() != 0 || Of(nil).Next() != 0 {
		t.Error("picks of none")
	}
}

func TestAgenda(t *testing.T) { // 8.2
	var a Agenda[string]
	if x, ok := a.Take(3); x != "" || ok || a.Len() != 0 || a.Has("") {
		t.Error("the zero Agenda has some")
	}
	for _, x := range []string{"a", "b", "c"} {
		if !a.Put(x) || a.Put(x) {
			t.Errorf("Put(%q)", x)
		}
	}
	for i, c := range []struct {
		n    int
		want string
	}{{4, "b"}, {0, "a"}, {-1, "c"}} {
		if !a.Has(c.want) || a.Len() != 3-i {
			t.Errorf("%q does not wait, %d do", c.want, a.Len())
		}
		if x, ok := a.Take(c.n); x != c.want || !ok {
			t.Errorf("Take(%d): %q, %v", c.n, x, ok)
		}
		if a.Has(c.want) {
			t.Errorf("%q waits still", c.want)
		}
	}
	if x, ok := a.Take(0); x != "" || ok {
		t.Errorf("%q, %v", x, ok)
	}
	if !a.Put("b") || a.Len() != 1 {
		t.Error("what was taken can not be put again")
	}
}

func TestUnsigned(t *testing.T) { // 8.2
	for n, want := range map[int]int{-1: 0, -2: 4, 1 << 62: 4, -1 << 63: 3, 7: 2} { // 2^64 - 1 is 0, 2^62 is 4, 2^63 is 3, divided by 5
		var a Agenda[int]
		for i := range 5 {
			a.Put(i)
		}
		if x, _ := a.Take(n); x != want {
			t.Errorf("Take(%d): %d, not %d", n, x, want)
		}
	}
}

func TestOnce(t *testing.T) { // 8.3
	for _, picks := range [][]int{nil, {5, 3, 8, -7, 100, 2}} {
		var a Agenda[int]
		p := Of(picks)
		var put, got []int
		for i := range 50 {
			x := i * 7 % 30
			if a.Put(x) {
				put = append(put, x)
			}
			if i%3 == 0 {
				x, _ := a.Take(p.Next())
				got = append(got, x)
			}
		}
		for a.Len() > 0 {
			x, _ := a.Take(p.Next())
			got = append(got, x)
		}
		if picks == nil && !slices.Equal(put, got) {
			t.Errorf("not in the order of coming: %v, %v", put, got)
		}
		slices.Sort(put)
		slices.Sort(got)
		if !slices.Equal(put, got) {
			t.Errorf("put %v, taken %v", put, got)
		}
	}
}

func TestNil(t *testing.T) { // P1
	var a *Agenda[int]
	a.Put(1)
	a.Take(0)
	a.Has(1)
	a.Len()
}
