package record

import (
	"reflect"
	"slices"
	"strings"
	"testing"

	"weft/api"
	"weft/pool"
	"weft/samples"
	"weft/summary"
	"weft/system"
)

func sum() api.Summary {
	return api.Summary{
		Name: "m", Gives: []string{"g", "h"}, Wants: []string{"w"}, Keeps: []string{"k"},
		System: api.System{
			Objs: []api.Obj{{Name: "g", Kinds: "ip", Marks: []api.Mark{{At: 300, Tag: "T"}, {At: 1, Tag: "U"}}}, {Name: "o"}},
			Fns:  []api.Fn{{Name: "f", Kinds: "i", Ret: "v"}},
			Cons: []api.Con{{Op: 2, A: "a", B: "b"}, {Op: 6, A: "a", B: "b", K: 5, Tag: "p>", Args: []string{"", "a"}}},
		},
	}
}

func all() []string { return strings.Split(" T U a b f g h i ip k m o p> v w", " ") }

func TestTexts(t *testing.T) { // 26.1
	if l := Texts(sum()); !slices.Equal(l, all()) {
		t.Errorf("%q", l)
	}
	if l := Texts(api.Summary{}); !slices.Equal(l, []string{""}) {
		t.Errorf("%q", l)
	}
}

func TestBytes(t *testing.T) { // 26.2
	if b, e := Bytes(pool.Of([]string{"a"}), api.Summary{Name: "a"}); b != "\x00\x00\x00\x00\x00\x00\x00" || e != api.OK {
		t.Errorf("%q, %v", b, e)
	}
	n := map[string]byte{}
	for i, s := range all() {
		n[s] = byte(i)
	}
	want := []byte{n["m"], 2, n["g"], n["h"], 1, n["w"], 1, n["k"], 2, n["g"], n["ip"], 2, 172, 2, n["T"], 1, n["U"], n["o"], 0, 0, 1, n["f"], n["i"], n["v"], 2, 2, n["a"], n["b"], 0, 0, 0, 6, n["a"], n["b"], 5, n["p>"], 2, 0, n["a"]}
	if b, e := Bytes(pool.Of(all()), sum()); b != string(want) || e != api.OK {
		t.Errorf("% x, %v", b, e)
	}
	for i, c := range []struct {
		without string
		change  func(s *api.Summary)
		e       api.Errno
	}{
		{"m", func(s *api.Summary) { s.System.Cons[0].Op = -1 }, api.ErrNone}, {"", func(s *api.Summary) { s.System.Cons[0].Op = -1 }, api.ErrNone}, {"p>", func(s *api.Summary) { s.System.Cons[0].Op = -1 }, api.ErrRange}, {"p>", func(s *api.Summary) { s.System.Cons[1].K = -1 }, api.ErrRange}, {"v", func(s *api.Summary) { s.System.Cons[0].Op = -1 }, api.ErrNone},
		{"T", func(s *api.Summary) { s.System.Objs[0].Marks[0].At = api.MaxCount + 1 }, api.ErrRange}, {"T", func(s *api.Summary) { s.System.Objs[0].Marks[0].At = api.MaxCount }, api.ErrNone}, {"x", func(s *api.Summary) { s.System.Cons[1].K = 1 << 40 }, api.ErrRange},
	} {
		s := sum()
		c.change(&s)
		l := slices.DeleteFunc(all(), func(x string) bool { return x == c.without })
		if b, e := Bytes(pool.Of(l), s); b != "" || e != c.e {
			t.Errorf("%d: %q, %v, not %v", i, b, e, c.e)
		}
	}
	if b, e := Bytes(nil, sum()); b != "" || e != api.ErrNone {
		t.Errorf("%q, %v", b, e)
	}
}

func TestRead(t *testing.T) { // 26.3
	p := pool.Of([]string{"a"})
	for b, want := range map[string]api.Errno{
		"\x00\x00\x00\x00\x00\x00\x00": api.OK, "\x00\x00\x00\x00\x00\x00\x00\x00": api.ErrMore, "": api.ErrShort, "\x00\x00\x00\x00\x00\x00": api.ErrShort, "\x80\x00": api.ErrField, "\x80": api.ErrShort,
		"\x01": api.ErrRange, "\x00\x01\x01": api.ErrRange, "\x00\x01": api.ErrShort, "\x00\xf1\x2e": api.ErrFull, "\x00\xf0\x2e": api.ErrShort, "\x00\x80\x80\x80\x80\x01": api.ErrFull, "\x00\x80\x80\x80\x80\x02": api.ErrRange,
		"\x00\x00\x00\x00\x01\x00\x00\xf1\x2e": api.ErrFull, "\x00\x00\x00\x00\x01\x00\x00\x01\x05\x02": api.ErrRange, "\x00\x00\x00\x00\x00\x00\x01\x05\x00\x00\x00\x00\x01\x02\x07": api.ErrRange, "\x00\x00\x00\x00\x00\x00\x01\x05\x00\x00\x00\x00\xf1\x2e": api.ErrFull, "\x00\x00\x00\x00\x00\x00\x01\x05\x00\x00\x00\x00\x01\x00": api.OK,
	} {
		s, e := Read(p, b)
		if e != want || e != api.OK && !reflect.DeepEqual(s, api.Summary{}) {
			t.Errorf("% x: %v, not %v", b, e, want)
		}
	}
	if _, e := Read(nil, "\x00"); e != api.ErrRange {
		t.Errorf("%v", e)
	}
	if s, e := Read(p, "\x00\x00\x00\x00\x00\x00\x01\x05\x00\x00\x09\x00\x01\x00"); e != api.OK || !system.Same(s.System, api.System{Cons: []api.Con{{Op: 5, A: "a", B: "a", K: 9, Tag: "a", Args: []string{"a"}}}}) {
		t.Errorf("%v, %v", s, e)
	}
}

func TestBackAgain(t *testing.T) { // 26.4
	l := []api.Summary{{}, sum()}
	for seed := range 100 {
		s, _ := summary.Of(samples.Module(seed), seed%2 == 0)
		l = append(l, s)
	}
	for i, s := range l {
		p := pool.Of(append(Texts(s), "more"))
		b, e := Bytes(p, s)
		got, e2 := Read(p, b)
		again, _ := Bytes(p, got)
		if e != api.OK || e2 != api.OK || !summary.Same(got, s) || again != b {
			t.Errorf("%d: %v, %v", i, e, e2)
		}
	}
	p := pool.Of([]string{"a", "b"})
	src := samples.From(1)
	for range 200000 { // whatever is read is written as those bytes
		var b []byte
		for range 7 + src.Next(6) {
			b = append(b, byte(src.Next(2)))
		}
		if s, e := Read(p, string(b)); e == api.OK {
			if again, _ := Bytes(p, s); again != string(b) {
				t.Fatalf("% x is read as what is written % x", b, again)
			}
		}
	}
}
