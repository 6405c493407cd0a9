package samples_test

import (
	"reflect"
	"testing"

	"weft/api"
	"weft/bound"
	"weft/clone"
	"weft/lower"
	"weft/machine"
	"weft/open"
	"weft/query"
	"weft/samples"
	"weft/scope"
	"weft/show"
	"weft/split"
	"weft/summary"
	"weft/trace"
)

// told is what the layers tell of a module, fields that are passed over apart.
func told(m api.Module) []any {
	var l []any
	put := func(x any, e api.Errno) { l = append(l, x, e) }
	text, e := show.Module(m)
	put(text, e)
	name, e := scope.Check(m)
	put(name, e)
	put(open.Face(m), api.OK)
	for _, f := range m.Funcs {
		for n, s := range scope.Each(f.Body) {
			put(n, api.Errno(s.Op))
		}
		added, e := lower.Func(m, f.Name)
		put(added, e)
	}
	whole, e := lower.Module(m)
	put(whole, e)
	sum, e := summary.Of(m, true)
	put(sum, e)
	calls, e := clone.Calls(m)
	put(calls, e)
	copied, e := clone.System(m)
	put(copied, e)
	edges, e := query.Calls([]api.Module{m}, nil)
	put(edges, e)
	size, e := bound.Whole([]api.Module{m})
	put(size, e)
	groups, e := split.Groups(m)
	put(groups, e)
	parts, e := split.Modules(m, []int{0, 1, 2, 1}, 3)
	for _, p := range append(parts, m) {
		text, e := show.Module(p)
		put(text, e)
	}
	put(nil, e)
	return l
}

// run is what a run of a program comes to.
func run(l []api.Module, seed int) []any {
	s := samples.From(seed)
	m, e := machine.New(l, s.Numbers(9), []int{0, 1, 0, 0, 1})
	if e != api.OK {
		return []any{e}
	}
	n, last := m.Run(300)
	objects, alive := m.Live()
	return []any{n, last, m.Trap(), m.Depth(), objects, alive, m.Seen()}
}

// parted are the parts of a program.
func parted(t *testing.T, m api.Module) []api.Module {
	t.Helper()
	l, e := split.Modules(m, []int{1, 0, 2, 1, 0}, 3)
	if e != api.OK {
		t.Fatal(e)
	}
	return l
}

// TestCluttered: what a kind, or an Op, does not need is passed over by all layers (10, 11, 13), whatever stands there.
func TestCluttered(t *testing.T) {
	same := func(seed int, got, want any) {
		t.Helper()
		if !reflect.DeepEqual(got, want) {
			t.Errorf("%d: %v, not %v", seed, got, want)
		}
	}
	for seed := range 150 {
		for _, sample := range []func(int) api.Module{samples.Program, samples.Module} {
			plain, full := sample(seed), samples.Cluttered(seed, sample)
			if reflect.DeepEqual(plain, full) {
				t.Errorf("%d: nothing was put there", seed)
			}
			same(seed, told(full), told(plain))
			same(seed, run([]api.Module{full}, seed), run([]api.Module{plain}, seed))
		}
		plain, full := parted(t, samples.Program(seed)), parted(t, samples.Cluttered(seed, samples.Program))
		same(seed, run(full, seed), run(plain, seed))
		if l, e := trace.Linked(full, nil, nil, 100); len(l) > 0 || e != api.OK {
			t.Errorf("%d: %v, %v", seed, l, e)
		}
		got, fuel, e := bound.Link(full, nil)
		want, taken, e2 := bound.Link(plain, nil)
		same(seed, got, want)
		if fuel != taken || e != api.OK || e2 != api.OK {
			t.Errorf("%d: %d, %d, %v, %v", seed, fuel, taken, e, e2)
		}
	}
}
