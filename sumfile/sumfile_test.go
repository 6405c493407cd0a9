package sumfile

import (
	"reflect"
	"strconv"
	"strings"
	"testing"

	"weft/api"
	"weft/crc"
	"weft/names"
	"weft/pool"
	"weft/record"
	"weft/samples"
	"weft/summary"
	"weft/system"
	"weft/varint"
)

func example() string { return crc.Seal("weft\x01\x01\x00\x01a\x07\x00\x00\x00\x00\x00\x00\x00") }

func TestEncode(t *testing.T) { // 27.1
	if f, e := Encode(api.Summary{Name: "a"}); f != example() || e != api.OK {
		t.Errorf("%q, %v", f, e)
	}
	wrong := api.Summary{Name: "a", Gives: []string{"x"}}
	if f, e := Encode(wrong); f != "" || e != api.ErrNone {
		t.Errorf("%q, %v", f, e)
	}
	for n, want := range map[int]api.Errno{5996: api.OK, 5997: api.ErrFull} { // with the Name, two objects, one letter
		s := api.Summary{Name: "a", System: api.System{Objs: []api.Obj{{Name: "g", Kinds: "p"}, {Name: "h", Kinds: "p"}}}}
		for i := range n {
			s.Keeps = append(s.Keeps, names.Of(names.Var, "f", "v"+strconv.Itoa(10000+i), 0))
		}
		if f, e := Encode(s); e != want || (f == "") != (e != api.OK) {
			t.Errorf("%d: %v", n, e)
		}
	}
	if f, e := Encode(large(590)); e != api.ErrLong || f != "" {
		t.Errorf("%d bytes, %v", len(f), e)
	}
	if f, e := Encode(large(300)); e != api.OK || len(f) > api.MaxFile {
		t.Errorf("%d bytes, %v", len(f), e)
	}
}

// large has many marks, all with the same few texts.
func large(objs int) api.Summary {
	s := api.Summary{Name: "a"}
	for i := range objs {
		o := api.Obj{Name: "o" + strconv.Itoa(10000+i), Kinds: strings.Repeat("i", 64)}
		for k := range 64 {
			for _, tag := range []string{"x", "y"} {
				o.Marks = append(o.Marks, api.Mark{At: k, Tag: tag})
			}
		}
		s.System.Objs = append(s.System.Objs, o)
	}
	return s
}

// file is a file of a version, a pool, and a record.
func file(version int, texts []string, rec, rest string) string {
	var w varint.Writer
	w.Number(version)
	pool.Of(texts).Write(&w)
	w.Text(rec)
	s, _ := w.Done()
	return crc.Seal("weft" + s + rest)
}

func TestDecode(t *testing.T) { // 27.2
	empty := "\x00\x00\x00\x00\x00\x00\x00"
	turned := []byte(example())
	turned[8] ^= 4
	for i, c := range []struct {
		b string
		e api.Errno
	}{
		{example(), api.OK}, {file(1, []string{"a"}, empty, ""), api.OK},
		{strings.Repeat("x", api.MaxFile+1), api.ErrLong}, {strings.Repeat("x", api.MaxFile), api.ErrSum}, {"", api.ErrSum}, {"weft", api.ErrSum}, {string(turned), api.ErrSum}, {example() + "x", api.ErrSum},
		{crc.Seal(""), api.ErrKind}, {crc.Seal("wefx\x01"), api.ErrKind}, {crc.Seal("wef"), api.ErrKind}, {crc.Seal("weft"), api.ErrShort}, {crc.Seal("weft\x80"), api.ErrShort}, {crc.Seal("weft\x81\x00"), api.ErrField}, {crc.Seal("weft\x80\x80\x80\x80\x02"), api.ErrRange},
		{file(2, []string{"a"}, empty, ""), api.ErrKind}, {file(0, []string{"a"}, "", "x"), api.ErrKind}, {crc.Seal("weft\x01"), api.ErrShort}, {crc.Seal("weft\x01\x01\x01\x00"), api.ErrRange}, {crc.Seal("weft\x01\x02\x00\x01b\x00\x01a"), api.ErrOrder}, {crc.Seal("weft\x01\xf1\x2e"), api.ErrFull},
		{crc.Seal("weft\x01\x00"), api.ErrShort}, {crc.Seal("weft\x01\x00\x02a"), api.ErrShort}, {file(1, []string{"a"}, empty, "x"), api.ErrMore}, {file(1, []string{"a"}, "", "x"), api.ErrMore},
		{file(1, []string{"a"}, empty+"x", ""), api.ErrMore}, {file(1, []string{"a"}, "", ""), api.ErrShort}, {file(1, nil, empty, ""), api.ErrRange}, {file(1, []string{"1", "a"}, empty, ""), api.ErrName}, {file(1, []string{"a"}, "\x00\x01\x00\x00\x00\x00\x00\x00", ""), api.ErrNone}, {file(1, []string{"a", "b"}, empty, ""), api.ErrField},
	} {
		s, e := Decode(c.b)
		if e != c.e || e != api.OK && !reflect.DeepEqual(s, api.Summary{}) || e == api.OK && !summary.Same(s, api.Summary{Name: "a"}) {
			t.Errorf("%d: %v, not %v", i, e, c.e)
		}
	}
}

func TestVersion(t *testing.T) { // 27.2
	for b, want := range map[string]int{"weft\x01": 1, "weft\x00": 0, "weft\xac\x02rest": 300, example(): 1, "": -1, "weft": -1, "wef\x01": -1, "weft\x80\x00": -1, "weft\x80": -1, "Weft\x01": -1} {
		n, ok := Version(b)
		if ok != (want >= 0) || ok && n != want || !ok && n != 0 {
			t.Errorf("%q: %d, %v", b, n, ok)
		}
	}
}

func TestOneFile(t *testing.T) { // 27.3, W3
	for seed := range 120 {
		s, _ := summary.Of(samples.Module(seed), seed%2 == 0)
		f, e := Encode(s)
		if e != api.OK {
			t.Fatal(e)
		}
		got, e := Decode(f)
		if e != api.OK || !summary.Same(got, s) {
			t.Errorf("%d: %v", seed, e)
		}
		src := samples.From(seed)
		inner, _ := crc.Open(f)
		for range 60 { // other bytes, with their own sum, are refused or are another summary's file
			b := []byte(inner)
			b[src.Next(len(b))] = byte(src.Next(256))
			other := crc.Seal(string(b))
			if x, e := Decode(other); e == api.OK {
				if again, _ := Encode(x); again != other || other != f && summary.Same(x, s) {
					t.Errorf("%d: bytes that are no file are read", seed)
				}
			}
		}
		for range 20 {
			b := []byte(f)
			b[src.Next(len(b))] ^= 1 << src.Next(8)
			if _, e := Decode(string(b)); e != api.ErrSum {
				t.Errorf("%d: %v: a bit was turned", seed, e)
			}
		}
	}
}

func TestTexts(t *testing.T) { // 27.1: the pool has just the summary's texts
	s := api.Summary{Name: "a", System: system.Canon(api.System{Objs: []api.Obj{{Name: "b", Kinds: "p"}}})}
	f, _ := Encode(s)
	inner, _ := crc.Open(f)
	r := varint.New(inner[5:])
	p, e := pool.Read(r)
	if e != api.OK || p.Len() != len(record.Texts(s)) {
		t.Errorf("%v, %d", e, p.Len())
	}
}
