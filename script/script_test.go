package script

import (
	"strconv"
	"strings"
	"testing"

	"weft/api"
)

const (
	giver  = "module m; fn id(p ptr) ptr { return p; }"
	wanter = "module n; extern fn id(ptr) ptr; global g ptr; global h ptr; fn f() { var p ptr; p = addr g; p = call id(p); store p p; p = addr id; p = icall p(p); }"
)

func TestLines(t *testing.T) { // 38.1, the table
	d := New(false)
	for _, c := range []struct{ line, want string }{
		{"names", "none"}, {"points f.p", "error 18"}, {"alias a b", "error 18"}, {"callees f@1", "error 18"}, {"reach f", "error 18"},
		{"add " + wanter, "ok"}, {"add " + wanter, "error 8"}, {"add ", "error 1"}, {"add", "error 70"}, {"add  module x;", "ok"}, {"add module x; $", "error 16"}, {"addx module y;", "error 70"}, {" add module y;", "error 70"}, {"Add module y;", "error 70"},
		{"names", "n x"}, {"names ", "error 70"}, {"names x", "error 70"}, {"remove x", "ok"}, {"remove x", "error 7"}, {"remove n", "ok"}, {"!names", "none"}, {"add " + wanter, "ok"}, {"remove", "error 70"}, {"remove ", "error 70"}, {"remove x y", "error 70"}, {"remove  x", "error 70"}, {"remove x ", "error 70"},
		{"link 1000", "error 7"}, {"add " + giver, "ok"}, {"link 5", "error 15"}, {"link 05", "error 70"}, {"link", "error 70"}, {"link ", "error 70"}, {"link -1", "error 70"}, {"link 268435457", "error 70"}, {"link 1000 x", "error 70"}, {"link 1000  5", "error 70"}, {"link 1000 5 268435456 0", "ok"}, {"link 268435456", "ok"},
		{"points f.p", "g+0 id()"}, {"points g+0", "g+0 id()"}, {"points zz", "none"}, {"points", "error 70"}, {"points a b", "error 70"}, {"callees f@5", "id"}, {"callees f@1", "none"}, {"callees zz", "none"}, {"callees", "error 70"}, {"callees a b", "error 70"}, {"alias f.p g+0", "yes"}, {"alias f.p h+0", "no"}, {"alias f.p", "error 70"}, {"alias a b c", "error 70"}, {"alias a  b", "error 70"}, {"reach f", "f id"}, {"reach z id", "id z"}, {"reach", "error 70"}, {"reach ", "error 70"}, {"reach f ", "error 70"},
		{"replace m " + giver + "\n# so", "ok"}, {"points f.p", "error 18"}, {"replace m", "error 70"}, {"replace m ", "error 1"}, {"replace  m module m;", "error 70"}, {"replace q module q;", "error 7"}, {"replace m module q;", "error 11"}, {"replace", "error 70"}, {"replace ", "error 70"},
		{"", "error 70"}, {" ", "error 70"}, {"what", "error 70"}, {"!!names", "error 70"}, {"!names", "n m"}, {"!", "error 70"}, {"!add module z;", "ok"}, {"! names", "error 70"}, {"names\r", "error 70"},
	} {
		if e := d.Put(c.line); e != api.OK {
			t.Errorf("%q: %v", c.line, e)
		}
		if got, ok := d.Next(); got != c.want || !ok {
			t.Errorf("%q: %q, %v, not %q", c.line, got, ok, c.want)
		}
	}
	if got, ok := d.Next(); got != "" || ok {
		t.Errorf("%q, %v", got, ok)
	}
}

func TestUrgent(t *testing.T) { // 38.1, 38.3
	d := New(true)
	d.Put("points x")
	d.Put("!names")
	d.Put("add module a;")
	d.Put("!link 7")
	d.Put("names")
	var got []string
	for u, o := d.Waits(); u+o > 0; u, o = d.Waits() {
		s, ok := d.Next()
		if !ok {
			t.Fatal("none waits")
		}
		got = append(got, strconv.Itoa(u)+strconv.Itoa(o)+s)
	}
	if s := strings.Join(got, "; "); s != "23none; 13ok; 03none; 02ok; 01a" {
		t.Errorf("%s", s)
	}
}

func TestPut(t *testing.T) { // 38.1
	d := New(false)
	for i := range 16 {
		if e := d.Put("names"); e != api.OK {
			t.Errorf("%d: %v", i, e)
		}
		if e := d.Put("!names"); e != api.OK {
			t.Errorf("%d: %v", i, e)
		}
	}
	if e := d.Put("names"); e != api.ErrFull {
		t.Errorf("%v", e)
	}
	if e := d.Put("!x"); e != api.ErrFull {
		t.Errorf("%v", e)
	}
	if e := d.Put(strings.Repeat("x", api.MaxText+101)); e != api.ErrLong {
		t.Errorf("%v: long is asked ahead of full", e)
	}
	if u, o := d.Waits(); u != 16 || o != 16 {
		t.Errorf("%d, %d", u, o)
	}
	d.Next()
	if e := d.Put("names"); e != api.ErrFull {
		t.Errorf("%v", e)
	}
	if e := d.Put("!" + strings.Repeat("x", api.MaxText+99)); e != api.OK {
		t.Errorf("%v", e)
	}
	for range 32 {
		if _, ok := d.Next(); !ok {
			t.Error("none waits")
		}
	}
	if _, ok := d.Next(); ok {
		t.Error("one was done twice")
	}
}

func TestRun(t *testing.T) { // 38.2
	text := "add " + giver + "\nadd " + wanter + "\n\nlink 100000\npoints id$1\n!names\nreach f"
	for _, less := range []bool{false, true} {
		if got := Run(text, less); got != "none\nok\nok\nok\ng+0 id()\nf id\n" {
			t.Errorf("%q", got)
		}
	}
	if got := Run("add module m; fn f() { var p ptr; p = addr f; }\nlink 999\npoints f.p", false); got != "ok\nok\nf()\n" {
		t.Errorf("%q", got)
	}
	if got := Run("add module m; fn f() { var p ptr; p = addr f; }\nlink 999\npoints f.p", true); got != "ok\nok\nnone\n" {
		t.Errorf("%q", got)
	}
	if got := Run("points x\n!names", true); got != "none\nerror 18\n" {
		t.Errorf("%q", got)
	}
	if got := Run("", true) + Run("\n\n", true); got != "" {
		t.Errorf("%q", got)
	}
	// the seventeenth line of its sort: all that wait are done, the urgent one first
	lines := strings.Repeat("names\n", 15) + "!add module u;\nremove u\nadd module v;\n!names\nx\n"
	if got := Run(lines, false); got != "ok\n"+strings.Repeat("u\n", 15)+"ok\nnone\nok\nerror 70\n" {
		t.Errorf("%q", got)
	}
	// what is too long is passed over
	if got := Run("names\n"+strings.Repeat("x", api.MaxText+101)+"\nx", false); got != "none\nerror 70\n" {
		t.Errorf("%q", got)
	}
}

func TestOnce(t *testing.T) { // 38.3
	var text, want string
	for i := range 70 {
		text += "add module a" + strconv.Itoa(i) + ";\nremove a" + strconv.Itoa(i) + "\n"
		want += "ok\nok\n"
	}
	if got := Run(text, false); got != want {
		t.Errorf("%q", got)
	}
}

func TestNil(t *testing.T) { // 38.1, P1
	for i, d := range []*Desk{nil, {}} {
		e := d.Put("names")
		s, ok := d.Next()
		u, o := d.Waits()
		if i == 0 && e != api.ErrState || e == api.OK || s != "" || ok || u+o != 0 {
			t.Errorf("%v, %q, %v, %d, %d", e, s, ok, u, o)
		}
	}
}
