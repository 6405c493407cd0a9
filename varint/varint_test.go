package varint

import (
	"strings"
	"testing"

	"weft/api"
)

func written(n int) string {
	var w Writer
	w.Number(n)
	s, _ := w.Done()
	return s
}

func TestWriter(t *testing.T) { // 2.1
	for n, want := range map[int]string{0: "\x00", 1: "\x01", 127: "\x7f", 128: "\x80\x01", 300: "\xac\x02", 16384: "\x80\x80\x01", api.MaxCount - 1: "\xff\xff\xff\x7f", api.MaxCount: "\x80\x80\x80\x80\x01"} {
		if s := written(n); s != want {
			t.Errorf("%d: % x, not % x", n, s, want)
		}
	}
	var w Writer
	if s, e := w.Done(); s != "" || e != api.OK {
		t.Errorf("the zero Writer: %q, %v", s, e)
	}
	w.Text("ab")
	w.Number(300)
	w.Text("")
	if s, e := w.Done(); s != "\x02ab\xac\x02\x00" || e != api.OK {
		t.Errorf("%q, %v", s, e)
	}
}

func TestWriterErrors(t *testing.T) { // 2.1
	for _, n := range []int{-1, api.MaxCount + 1, -1 << 63} {
		var w Writer
		w.Number(1)
		w.Number(n)
		w.Text(strings.Repeat("x", api.MaxFile+1))
		w.Number(2)
		if s, e := w.Done(); s != "" || e != api.ErrRange {
			t.Errorf("%d: %q, %v", n, s, e)
		}
	}
	var w Writer
	w.Text(strings.Repeat("x", api.MaxFile))
	if s, e := w.Done(); len(s) != api.MaxFile+3 || e != api.OK {
		t.Errorf("%d, %v", len(s), e)
	}
	w.Text(strings.Repeat("x", api.MaxFile+1))
	w.Number(-1)
	if s, e := w.Done(); s != "" || e != api.ErrLong {
		t.Errorf("%q, %v", s, e)
	}
}

func TestReadNumber(t *testing.T) { // 2.2
	for _, c := range []struct {
		s     string
		n, at int
		e     api.Errno
	}{
		{"", 0, 0, api.ErrShort}, {"\x80", 0, 0, api.ErrShort}, {"\xff\xff\xff\xff", 0, 0, api.ErrShort},
		{"\x00", 0, 1, api.OK}, {"\x80\x00", 0, 0, api.ErrField}, {"\x80\x80\x80\x80\x00", 0, 0, api.ErrField}, {"\xff\xff\xff\xff\x00", 0, 0, api.ErrField},
		{"\x80\x80\x80\x80\x01", api.MaxCount, 5, api.OK}, {"\x81\x80\x80\x80\x01", 0, 0, api.ErrRange}, {"\x80\x80\x80\x80\x02", 0, 0, api.ErrRange},
		{"\x80\x80\x80\x80\x80", 0, 0, api.ErrRange}, {"\x80\x80\x80\x80\x81", 0, 0, api.ErrRange}, {"\x80\x80\x80\x80\x80\x00", 0, 0, api.ErrRange},
		{"\xac\x02\x00", 300, 2, api.ErrMore},
	} {
		r := New(c.s)
		n := r.Number()
		if at, e := r.Done(); n != c.n || at != c.at || e != c.e {
			t.Errorf("% x: %d, at %d, %v", c.s, n, at, e)
		}
	}
}

func TestReadText(t *testing.T) { // 2.2
	r := New("\x01a\x03bc")
	if s := r.Text(); s != "a" {
		t.Errorf("%q", s)
	}
	if s := r.Text(); s != "" {
		t.Errorf("%q", s)
	}
	if at, e := r.Done(); at != 2 || e != api.ErrShort {
		t.Errorf("at %d, %v: of a text that is too short nothing is taken", at, e)
	}
	if r.Number() != 0 || r.Text() != "" {
		t.Error("something is read behind an error")
	}
	r = New("\x80\x00x")
	if s := r.Text(); s != "" {
		t.Errorf("%q", s)
	}
	if at, e := r.Done(); at != 0 || e != api.ErrField {
		t.Errorf("at %d, %v", at, e)
	}
}

func TestFail(t *testing.T) { // 2.2
	r := New("\x01\x02")
	r.Fail(api.OK)
	if r.Number() != 1 {
		t.Error("OK is no error")
	}
	r.Fail(api.ErrTwice)
	r.Fail(api.ErrNone)
	if r.Number() != 0 {
		t.Error("read behind an error")
	}
	if at, e := r.Done(); at != 1 || e != api.ErrTwice {
		t.Errorf("at %d, %v", at, e)
	}
}

func TestBackAgain(t *testing.T) { // 2.3
	for n := 0; n <= api.MaxCount; n += 1 + n/5 {
		var w Writer
		w.Number(n)
		w.Text("x")
		s, _ := w.Done()
		r := New(s)
		if got, x := r.Number(), r.Text(); got != n || x != "x" {
			t.Errorf("%d comes back as %d, %q", n, got, x)
		}
		if at, e := r.Done(); at != len(s) || e != api.OK {
			t.Errorf("%d: at %d of %d, %v", n, at, len(s), e)
		}
	}
	for i := range 1 << 16 { // whatever is read is what would be put
		b := string([]byte{byte(i), byte(i >> 8), 1})
		r := New(b)
		n := r.Number()
		if at, e := r.Done(); (e == api.OK || e == api.ErrMore) && written(n) != b[:at] {
			t.Fatalf("% x is read as %d", b, n)
		}
	}
}

func TestNil(t *testing.T) { // P1
	var w *Writer
	w.Number(1)
	w.Text("a")
	w.Done()
	var r *Reader
	r.Number()
	r.Text()
	r.Fail(api.ErrNone)
	r.Done()
}
