package crc

import "testing"

func TestOf(t *testing.T) { // 3.1
	for s, want := range map[string]uint32{"": 0xB704CE, "123456789": 0x21CF02, "a": 0xF25713} {
		if got := Of(s); got != want {
			t.Errorf("Of(%q): %06X, not %06X", s, got, want)
		}
	}
	var s Sum
	if s.Value() != 0xB704CE {
		t.Error("the zero Sum is not that of no bytes")
	}
}

func TestPieces(t *testing.T) { // 3.1, 3.3
	text := "to come to the same sum, however parted\x00\xff"
	for i := range len(text) {
		for j := i; j <= len(text); j++ {
			var s Sum
			s.Write(text[:i])
			if s.Value() != Of(text[:i]) {
				t.Fatalf("the sum at %d is another one", i)
			}
			s.Write(text[i:j])
			s.Write("")
			s.Write(text[j:])
			if s.Value() != Of(text) {
				t.Fatalf("parted at %d, %d: %06X", i, j, s.Value())
			}
		}
	}
}

func TestSeal(t *testing.T) { // 3.2
	if s := Seal("123456789"); s != "123456789\x21\xCF\x02" {
		t.Errorf("%q", s)
	}
	if s := Seal(""); s != "\xB7\x04\xCE" {
		t.Errorf("%q", s)
	}
	for _, s := range []string{"", "a", "123456789", "\x00\x00"} {
		if got, ok := Open(Seal(s)); got != s || !ok {
			t.Errorf("Open of the sealed %q: %q, %v", s, got, ok)
		}
	}
	for _, s := range []string{"", "a", "ab", "abc", "123456789\x02\xCF\x21", "123456789\x21\xCF"} {
		if got, ok := Open(s); got != "" || ok {
			t.Errorf("Open(%q): %q, %v", s, got, ok)
		}
	}
}

func TestTurned(t *testing.T) { // 3.3
	sealed := []byte(Seal("some bytes"))
	for first := range 8 * len(sealed) {
		for n := 1; n <= 24 && first+n <= 8*len(sealed); n++ {
			for _, inner := range []uint32{0, 0xFFFFFF, 0x5A5A5A} { // the bits between the outermost ones
				b := append([]byte(nil), sealed...)
				for k := range n {
					if k == 0 || k == n-1 || inner>>k&1 == 1 {
						b[(first+k)/8] ^= 0x80 >> ((first + k) % 8)
					}
				}
				if _, ok := Open(string(b)); ok {
					t.Fatalf("%d bits turned from %d on are not seen", n, first)
				}
			}
		}
	}
}

func TestNil(t *testing.T) { // P1
	var s *Sum
	s.Write("a")
	if s.Value() != Of("") {
		t.Error("a nil Sum has bytes")
	}
}
