package symbols

import (
	"reflect"
	"slices"
	"strings"
	"testing"

	"weft/api"
)

// sum makes a summary of words: +NAME is given, -NAME is wanted, NAME is its own. A name with () is a function; behind a : stand its kinds.
func sum(name, words string) api.Summary {
	s := api.Summary{Name: name}
	l := strings.Fields(words)
	slices.SortFunc(l, func(a, b string) int { return strings.Compare(strings.TrimLeft(a, "+-"), strings.TrimLeft(b, "+-")) })
	for _, w := range l {
		n, kinds, _ := strings.Cut(strings.TrimLeft(w, "+-"), ":")
		switch w[0] {
		case '+':
			s.Gives = append(s.Gives, n)
		case '-':
			s.Wants = append(s.Wants, n)
		}
		if strings.HasSuffix(n, ")") {
			s.System.Fns = append(s.System.Fns, api.Fn{Name: n, Kinds: kinds, Ret: "v"})
		} else {
			s.System.Objs = append(s.System.Objs, api.Obj{Name: n, Kinds: kinds + "p"})
		}
	}
	return s
}

func TestResolve(t *testing.T) { // 28.1
	l := []api.Summary{sum("n", "-f() own:i +a:p"), sum("m", "+f() +g -a:p"), sum("k", "-f() -g k%x")}
	got, name, e := Resolve(l)
	want := []Symbol{{"a", "n", []string{"m"}}, {"f()", "m", []string{"k", "n"}}, {"g", "m", []string{"k"}}}
	if !reflect.DeepEqual(got, want) || name != "" || e != api.OK {
		t.Errorf("%v, %q, %v", got, name, e)
	}
	if got, name, e := Resolve(nil); len(got) != 0 || name != "" || e != api.OK {
		t.Errorf("%v, %q, %v", got, name, e)
	}
	if got, _, _ := Resolve([]api.Summary{sum("m", "+f()")}); len(got) != 1 || got[0].Giver != "m" || len(got[0].Wanted) != 0 {
		t.Errorf("%v", got)
	}
}

func TestErrors(t *testing.T) { // 28.1
	wrong := sum("w", "+f()")
	wrong.Gives = []string{"g"}
	marked := sum("b", "-g")
	marked.System.Objs[0].Marks = []api.Mark{{Tag: "S"}}
	returning := sum("b", "-f()")
	returning.System.Fns[0].Ret = "i"
	for i, c := range []struct {
		l    []api.Summary
		name string
		e    api.Errno
	}{
		{make([]api.Summary, 9), "", api.ErrFull}, {make([]api.Summary, 8), "", api.ErrName},
		{[]api.Summary{sum("a", "-z"), wrong}, "w", api.ErrNone}, {[]api.Summary{sum("a", ""), sum("b", ""), sum("a", "")}, "a", api.ErrTwice}, {[]api.Summary{sum("a", ""), sum("a", ""), wrong}, "a", api.ErrTwice}, {[]api.Summary{sum("w", ""), wrong}, "w", api.ErrNone},
		{[]api.Summary{sum("a", "+g"), sum("b", "+g")}, "g", api.ErrTwice}, {[]api.Summary{sum("a", "+g"), sum("b", "g")}, "g", api.ErrTwice}, {[]api.Summary{sum("a", "g"), sum("b", "g")}, "g", api.ErrTwice}, {[]api.Summary{sum("a", "g"), sum("b", "-g")}, "g", api.ErrTwice}, {[]api.Summary{sum("a", "+g"), sum("b", "-g"), sum("c", "g:i")}, "g", api.ErrTwice}, {[]api.Summary{sum("a", "+g"), sum("b", "+g:i")}, "g", api.ErrTwice},
		{[]api.Summary{sum("a", "+g"), sum("b", "-g:i")}, "g", api.ErrType}, {[]api.Summary{sum("a", "-g"), sum("b", "-g:i")}, "g", api.ErrType}, {[]api.Summary{sum("a", "+f()"), sum("b", "-f():i")}, "f()", api.ErrType}, {[]api.Summary{sum("a", "+g"), marked}, "g", api.ErrType}, {[]api.Summary{sum("a", "+f()"), returning}, "f()", api.ErrType},
		{[]api.Summary{sum("a", "-g")}, "g", api.ErrNone}, {[]api.Summary{sum("a", "-g"), sum("b", "-g")}, "g", api.ErrNone}, {[]api.Summary{sum("a", "-f()"), sum("b", "+f")}, "f()", api.ErrNone},
		{[]api.Summary{sum("a", "-a +b"), sum("b", "+b")}, "a", api.ErrNone}, {[]api.Summary{sum("a", "-c +b"), sum("b", "+b")}, "b", api.ErrTwice},
	} {
		got, name, e := Resolve(c.l)
		if len(got) != 0 || name != c.name || e != c.e {
			t.Errorf("%d: %v, %q, %v, not %q, %v", i, got, name, e, c.name, c.e)
		}
	}
}

func TestOrder(t *testing.T) { // 28.2
	l := []api.Summary{sum("n", "-f() own:i +a:p"), sum("m", "+f() +g -a:p"), sum("k", "-f() -g k%x")}
	want, _, _ := Resolve(l)
	for _, order := range [][3]int{{0, 2, 1}, {1, 0, 2}, {1, 2, 0}, {2, 0, 1}, {2, 1, 0}} {
		if got, name, e := Resolve([]api.Summary{l[order[0]], l[order[1]], l[order[2]]}); !reflect.DeepEqual(got, want) || name != "" || e != api.OK {
			t.Errorf("%v: %v, %q, %v", order, got, name, e)
		}
	}
}
