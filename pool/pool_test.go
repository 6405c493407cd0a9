package pool

import (
	"slices"
	"strings"
	"testing"

	"weft/api"
	"weft/varint"
)

func written(p *Pool) string {
	var w varint.Writer
	p.Write(&w)
	s, _ := w.Done()
	return s
}

func TestPool(t *testing.T) { // 25.1
	l := []string{"b", "a", "ab", "b", "", "a"}
	p := Of(l)
	if l[0] != "b" || p.Len() != 4 {
		t.Errorf("%v, %d", l, p.Len())
	}
	for i, want := range []string{"", "a", "ab", "b"} {
		if n, ok := p.Number(want); n != i || !ok {
			t.Errorf("Number(%q): %d, %v", want, n, ok)
		}
		if s, ok := p.At(i); s != want || !ok {
			t.Errorf("At(%d): %q, %v", i, s, ok)
		}
	}
	for _, s := range []string{"aa", "c", "0"} {
		if n, ok := p.Number(s); n != 0 || ok {
			t.Errorf("Number(%q): %d, %v", s, n, ok)
		}
	}
	for _, i := range []int{-1, 4, 1 << 60} {
		if s, ok := p.At(i); s != "" || ok {
			t.Errorf("At(%d): %q, %v", i, s, ok)
		}
	}
	var none *Pool
	if _, ok := none.Number(""); ok || none.Len() != 0 {
		t.Error("a nil Pool has texts")
	}
	if _, ok := none.At(0); ok || written(none) != "\x00" {
		t.Error("a nil Pool has texts")
	}
}

func TestWrite(t *testing.T) { // 25.2
	for want, l := range map[string][]string{"\x00": nil, "\x03\x00\x01a\x01\x01b\x00\x01b": {"b", "ab", "a"}, "\x02\x00\x00\x00\x02xy": {"", "xy"}, "\x02\x00\x03abc\x02\x02de": {"abc", "abde"}} {
		if s := written(Of(l)); s != want {
			t.Errorf("%q: %q, not %q", l, s, want)
		}
	}
	var w varint.Writer
	w.Number(7)
	Of([]string{strings.Repeat("x", api.MaxFile+1)}).Write(&w)
	if _, e := w.Done(); e != api.ErrLong {
		t.Errorf("%v", e)
	}
	Of(nil).Write(nil)
}

func TestRead(t *testing.T) { // 25.2
	long := strings.Repeat("y", 1000)
	for i, c := range []struct {
		s string
		e api.Errno
		n int
	}{
		{"\x00", api.OK, 0}, {"\x03\x00\x01a\x01\x01b\x00\x01brest", api.OK, 3}, {"\x01\x00\x00", api.OK, 1},
		{"", api.ErrShort, 0}, {"\x80\x00", api.ErrField, 0}, {"\x01", api.ErrShort, 0}, {"\x01\x00", api.ErrShort, 0}, {"\x01\x00\x02a", api.ErrShort, 0}, {"\x01\x05", api.ErrShort, 0}, {"\x01\x00\x81\x00", api.ErrField, 0},
		{"\xf1\x2e", api.ErrFull, 0}, {"\xf0\x2e", api.ErrShort, 0},
		{"\x01\x01\x01a", api.ErrRange, 0}, {"\x02\x00\x01a\x02\x01a", api.ErrRange, 0}, {"\x02\x00\x01a\x02\x02a", api.ErrShort, 0},
		{"\x01\x00\xe8\x07" + long, api.OK, 1}, {"\x01\x00\xe9\x07y" + long, api.ErrLong, 0}, {"\x02\x00\xe8\x07" + long + "\xe8\x07\x01a", api.ErrLong, 0}, {"\x02\x00\x01z\x00\xe9\x07y" + long, api.ErrLong, 0},
		{"\x02\x00\x01b\x00\x01a", api.ErrOrder, 0}, {"\x02\x00\x01b\x01\x00", api.ErrOrder, 0}, {"\x02\x00\x00\x00\x00", api.ErrOrder, 0}, {"\x02\x00\x01b\x00\x01b", api.ErrOrder, 0}, {"\x02\x00\x02ab\x01\x00", api.ErrOrder, 0},
		{"\x02\x00\x01a\x00\x02ab", api.ErrField, 0}, {"\x02\x00\x03abc\x01\x02bd", api.ErrField, 0},
	} {
		r := varint.New(c.s)
		p, e := Read(r)
		if e != c.e || (p != nil) != (e == api.OK) || p.Len() != c.n {
			t.Errorf("%d: %v, %d texts", i, e, p.Len())
		}
		if _, after := r.Done(); c.e != api.OK && after != c.e {
			t.Errorf("%d: r has %v, not %v", i, after, c.e)
		}
	}
	if p, e := Read(nil); p != nil || e != api.ErrNone {
		t.Errorf("%v", e)
	}
	r := varint.New("\x00")
	r.Fail(api.ErrMore)
	if _, e := Read(r); e != api.ErrMore {
		t.Errorf("%v: what was wrong ahead of it", e)
	}
	r = varint.New("\x00\x05")
	if _, e := Read(r); e != api.OK || r.Number() != 5 {
		t.Errorf("%v: it is taken from r's place on, and no more", e)
	}
}

func TestBackAgain(t *testing.T) { // 25.3
	for _, l := range [][]string{nil, {""}, {"a", "ab", "abc", "b", "ba"}, {"\x00", "\x00\x00", "\xff"}, {"f.x", "f.y", "f@1", "g+0", "g+1"}} {
		s := written(Of(l))
		p, e := Read(varint.New(s))
		if e != api.OK || !slices.Equal(p.texts, Of(l).texts) || written(p) != s {
			t.Errorf("%q: %v", l, e)
		}
	}
	for i := range 1 << 18 { // whatever is read has been written in that way
		b := []byte{2, 0, byte(i % 3), 'a', byte(i / 3 % 4), byte(i / 12 % 3), byte('a' + i/36%3), byte('a' + i/108%3), byte(i / 324 % 3)}
		r := varint.New(string(b))
		if p, e := Read(r); e == api.OK {
			at, _ := r.Done()
			if written(p) != string(b[:at]) {
				t.Fatalf("% x is read as %q", b, p.texts)
			}
		}
	}
}
