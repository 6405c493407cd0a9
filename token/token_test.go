package token

import (
	"slices"
	"strings"
	"testing"

	"weft/api"
)

func TestKeys(t *testing.T) { // 9.1
	want := strings.Fields("addr call copy else extern fn free global icall if index input int isnull less load member minus module new null obj plus ptr return same static store struct times var while")
	got := Keys()
	if !slices.Equal(got, want) || !slices.IsSorted(got) {
		t.Errorf("%v", got)
	}
	for _, k := range want {
		if !IsKey(k) {
			t.Errorf("%q is no key", k)
		}
	}
	for _, k := range []string{"", "x", "Addr", "addr ", " addr", "addr call", "ad"} {
		if IsKey(k) {
			t.Errorf("%q is a key", k)
		}
	}
	got[0] = "x"
	if !IsKey("addr") || Keys()[0] != "addr" {
		t.Error("the list is no new one")
	}
}

func TestAll(t *testing.T) { // 9.1
	for _, c := range []struct {
		s    string
		want []Token
	}{
		{"x = load p; # note", []Token{{Name, "x", 1}, {Mark, "=", 1}, {Key, "load", 1}, {Name, "p", 1}, {Mark, ";", 1}}},
		{"", nil}, {" \t\r\n#", nil}, {"# a\n# b\na", []Token{{Name, "a", 3}}},
		{"{}()[];=,-", []Token{{Mark, "{", 1}, {Mark, "}", 1}, {Mark, "(", 1}, {Mark, ")", 1}, {Mark, "[", 1}, {Mark, "]", 1}, {Mark, ";", 1}, {Mark, "=", 1}, {Mark, ",", 1}, {Mark, "-", 1}}},
		{"-12\n\r\n0[a1]268435456", []Token{{Mark, "-", 1}, {Count, "12", 1}, {Count, "0", 3}, {Mark, "[", 3}, {Name, "a1", 3}, {Mark, "]", 3}, {Count, "268435456", 3}}},
		{"a123456789012345 _", []Token{{Name, "a123456789012345", 1}, {Name, "_", 1}}},
		{"if#x\r\nif", []Token{{Key, "if", 1}, {Key, "if", 2}}},
	} {
		got, line, e := All(c.s)
		if !slices.Equal(got, c.want) || line != 0 || e != api.OK {
			t.Errorf("All(%q): %v, %d, %v", c.s, got, line, e)
		}
	}
	if Name != 1 || Key != 2 || Count != 3 || Mark != 4 {
		t.Error("kinds")
	}
}

func TestErrors(t *testing.T) { // 9.1
	for _, c := range []struct {
		s    string
		line int
		e    api.Errno
	}{
		{strings.Repeat(" ", api.MaxText+1), 0, api.ErrLong}, {"a\na12345678901234567", 2, api.ErrName},
		{"01", 1, api.ErrField}, {"\n\n1a", 3, api.ErrField}, {"268435457", 1, api.ErrRange}, {"268435457a", 1, api.ErrField}, {"1_", 1, api.ErrField},
		{"x\n+", 2, api.ErrLine}, {"é", 1, api.ErrLine}, {"a\x00", 1, api.ErrLine}, {"$ 01", 1, api.ErrLine}, {"01 $", 1, api.ErrField}, {"\v", 1, api.ErrLine}, {"# \n\n.", 3, api.ErrLine},
	} {
		if got, line, e := All(c.s); len(got) != 0 || line != c.line || e != c.e {
			t.Errorf("All(%.20q): %v, %d, %v", c.s, got, line, e)
		}
	}
	if _, _, e := All(strings.Repeat(" ", api.MaxText)); e != api.OK {
		t.Errorf("%v", e)
	}
}

func TestJoin(t *testing.T) { // 9.2, 9.3
	for s, want := range map[string]string{"": "", "a": "a", "x=load\tp;# b": "x = load p ;", "[3]\n\nint -5": "[ 3 ] int - 5"} {
		l, _, _ := All(s)
		if got := Join(l); got != want {
			t.Errorf("%q, not %q", got, want)
		}
		again, _, e := All(Join(l))
		for i := range l {
			l[i].Line = 1
		}
		if e != api.OK || !slices.Equal(again, l) {
			t.Errorf("%v come back as %v, %v", l, again, e)
		}
	}
}
