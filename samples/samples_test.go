package samples

import (
	"reflect"
	"testing"

	"weft/api"
	"weft/scope"
	"weft/system"
)

func TestMayBe(t *testing.T) {
	for seed := range 300 {
		s := System(seed)
		f := Face(seed, s)
		if e := system.Check(s); e != api.OK {
			t.Errorf("%d: %v", seed, e)
		}
		o := Other(seed, s, f)
		if e := system.Check(o); e != api.OK {
			t.Errorf("%d: %v", seed, e)
		}
		if _, e := system.Union([]api.System{s, o}); e != api.OK {
			t.Errorf("%d: %v", seed, e)
		}
		if name, e := scope.Check(Module(seed)); e != api.OK {
			t.Errorf("%d: %q, %v", seed, name, e)
		}
		if name, e := scope.Check(Program(seed)); e != api.OK {
			t.Errorf("%d: %q, %v", seed, name, e)
		}
		if !reflect.DeepEqual(Program(seed), Program(seed)) || !reflect.DeepEqual(System(seed), s) {
			t.Errorf("%d: two samples of one number", seed)
		}
	}
}
