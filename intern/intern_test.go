package intern

import (
	"slices"
	"strconv"
	"testing"
)

type pair struct {
	x string
	n int
}

func pairs(t *Table[string]) []pair {
	var l []pair
	for x, n := range t.Rising() {
		l = append(l, pair{x, n})
	}
	return l
}

func TestTable(t *testing.T) { // 5.1
	var tab Table[string]
	if _, ok := tab.Find("a"); ok || tab.Len() != 0 || pairs(&tab) != nil {
		t.Error("the zero Table has things")
	}
	for _, c := range []struct {
		x   string
		n   int
		new bool
	}{{"b", 0, true}, {"a", 1, true}, {"b", 0, false}, {"", 2, true}, {"a", 1, false}} {
		if n, ok := tab.Put(c.x); n != c.n || ok != c.new {
			t.Errorf("Put(%q): %d, %v", c.x, n, ok)
		}
	}
	if n, ok := tab.Find("a"); n != 1 || !ok {
		t.Errorf("Find: %d, %v", n, ok)
	}
	if n, ok := tab.Find("c"); n != 0 || ok {
		t.Errorf("Find: %d, %v", n, ok)
	}
	for n, want := range map[int]string{-1: "", 0: "b", 1: "a", 2: "", 3: ""} {
		if x, ok := tab.At(n); x != want || ok != (n >= 0 && n < 3) {
			t.Errorf("At(%d): %q, %v", n, x, ok)
		}
	}
	if l := pairs(&tab); tab.Len() != 3 || !slices.Equal(l, []pair{{"", 2}, {"a", 1}, {"b", 0}}) {
		t.Errorf("%v", l)
	}
}

func TestRising(t *testing.T) { // 5.1
	var tab Table[int]
	for _, x := range []int{30, -10, 20} {
		tab.Put(x)
	}
	each := tab.Rising()
	var got []int
	for x, n := range each {
		tab.Put(x + 1)
		got = append(got, x, n)
	}
	if !slices.Equal(got, []int{-10, 1, 20, 2, 30, 0}) {
		t.Errorf("%v", got)
	}
	calls := 0
	each(func(int, int) bool { calls++; return calls < 2 })
	if calls != 2 || tab.Len() != 6 {
		t.Errorf("%d calls, %d things", calls, tab.Len())
	}
}

func TestSorted(t *testing.T) { // 5.2
	l := []string{"b", "a", "b", "", "ab"}
	s := Sorted(l)
	if !slices.Equal(s, []string{"", "a", "ab", "b"}) || l[0] != "b" {
		t.Errorf("%v of %v", s, l)
	}
	s[0] = "x"
	if l[3] != "" || len(Sorted([]int(nil))) != 0 {
		t.Error("it is no new list")
	}
	one := []int{1, 2}
	Sorted(one)[0] = 5
	if one[0] != 1 {
		t.Error("it is no new list")
	}
}

func TestOneForOne(t *testing.T) { // 5.3
	var tab Table[string]
	for i := range 1000 {
		tab.Put(strconv.Itoa(i * 7 % 100))
	}
	if tab.Len() != 100 {
		t.Errorf("%d things", tab.Len())
	}
	for n := range tab.Len() {
		x, _ := tab.At(n)
		if m, ok := tab.Find(x); m != n || !ok || x != strconv.Itoa(n*7%100) {
			t.Errorf("%q: %d, not %d", x, m, n)
		}
	}
}

func TestNil(t *testing.T) { // P1
	var tab *Table[int]
	tab.Put(1)
	tab.Find(1)
	tab.At(0)
	for range tab.Rising() {
		t.Error("a nil table has things")
	}
}
