package forest

import (
	"slices"
	"testing"
)

func TestExample(t *testing.T) { // 6.1
	f := New(4)
	if !f.Join(3, 1) || !f.Join(1, 2) || f.Join(2, 3) || f.Join(0, 0) || f.Join(0, 4) || f.Join(-1, 0) {
		t.Error("Join")
	}
	if f.Find(3) != 1 || f.Find(0) != 0 || f.Find(4) != -1 || f.Find(-1) != -1 || f.Parts() != 2 {
		t.Errorf("%d, %d parts", f.Find(3), f.Parts())
	}
	if l := f.Members(2); !slices.Equal(l, []int{1, 2, 3}) {
		t.Errorf("%v", l)
	}
	if l := f.Members(0); !slices.Equal(l, []int{0}) || len(f.Members(4)) != 0 || len(f.Members(-1)) != 0 {
		t.Errorf("%v", l)
	}
	f.Members(2)[0] = 9
	if f.Members(2)[0] != 1 {
		t.Error("what is handed out is still its own")
	}
}

func TestNew(t *testing.T) { // 6.1
	for n, want := range map[int]int{-1: 0, -1 << 63: 0, 0: 0, 1: 1, 100000: 100000, 100001: 100000, 1 << 62: 100000} {
		f := New(n)
		if f.Parts() != want || f.Find(want) != -1 || want > 0 && f.Find(want-1) != want-1 {
			t.Errorf("New(%d): %d parts", n, f.Parts())
		}
	}
}

func TestOrder(t *testing.T) { // 6.2
	joins := [][2]int{{9, 8}, {7, 8}, {0, 9}, {3, 4}, {4, 3}, {5, 3}, {7, 0}, {1, 1}}
	var want []int
	for turn := range joins {
		f, parts := New(10), 10
		for i := range joins {
			j := joins[(i*3+turn)%len(joins)]
			if f.Join(j[turn%2], j[1-turn%2]) {
				parts--
			}
			if f.Parts() != parts {
				t.Fatalf("%d parts, not %d", f.Parts(), parts)
			}
		}
		var got []int
		for n := range 10 {
			got = append(got, f.Find(n))
			for _, m := range f.Members(n) {
				if f.Find(m) != f.Find(n) {
					t.Errorf("%d is with %d", m, n)
				}
			}
		}
		if want == nil {
			want = []int{0, 1, 2, 3, 3, 3, 6, 0, 0, 0}
		}
		if !slices.Equal(got, want) {
			t.Errorf("turn %d: %v", turn, got)
		}
	}
}

func TestLongChain(t *testing.T) { // P1
	f := New(100000)
	for i := 99999; i > 0; i-- {
		f.Join(i, i-1)
	}
	if f.Parts() != 1 || f.Find(99999) != 0 || len(f.Members(5)) != 100000 {
		t.Errorf("%d parts", f.Parts())
	}
}

func TestNil(t *testing.T) { // 6.1
	var f *Forest
	if f.Find(0) != -1 || f.Join(0, 0) || len(f.Members(0)) != 0 || f.Parts() != 0 {
		t.Error("a nil Forest has members")
	}
	f = &Forest{}
	if f.Find(0) != -1 || f.Join(0, 0) || len(f.Members(0)) != 0 || f.Parts() != 0 {
		t.Error("a zero Forest has members")
	}
}
