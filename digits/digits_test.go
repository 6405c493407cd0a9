package digits

import (
	"math"
	"strings"
	"testing"

	"weft/api"
)

func TestText(t *testing.T) { // 1.1
	for n, want := range map[int]string{0: "0", 7: "7", -5: "-5", 100: "100", api.MaxCount: "268435456", math.MaxInt64: "9223372036854775807", math.MinInt64: "-9223372036854775808"} {
		if s := Text(n); s != want {
			t.Errorf("Text(%d): %q, not %q", n, s, want)
		}
	}
}

func TestRead(t *testing.T) { // 1.1
	for _, c := range []struct {
		s string
		n int
		e api.Errno
	}{
		{"", 0, api.ErrShort}, {"0", 0, api.OK}, {"7", 7, api.OK}, {"10", 10, api.OK},
		{"05", 0, api.ErrField}, {"00", 0, api.ErrField}, {"-1", 0, api.ErrField}, {"+1", 0, api.ErrField}, {"1a", 0, api.ErrField}, {" 1", 0, api.ErrField}, {"1_0", 0, api.ErrField}, {"٣", 0, api.ErrField},
		{"268435456", 1 << 28, api.OK}, {"268435457", 0, api.ErrRange}, {"18446744073709551617", 0, api.ErrRange},
		{strings.Repeat("9", 5000), 0, api.ErrRange}, {strings.Repeat("9", 5000) + "x", 0, api.ErrField}, {"0" + strings.Repeat("9", 50), 0, api.ErrField},
	} {
		if n, e := Read(c.s); n != c.n || e != c.e {
			t.Errorf("Read(%.20q): %d, %v, not %d, %v", c.s, n, e, c.n, c.e)
		}
	}
}

func TestName(t *testing.T) { // 1.2
	for s, want := range map[string]bool{"a": true, "_": true, "Z9_": true, "a123456789012345": true, "a1234567890123456": false, "": false, "1a": false, "a-b": false, "a b": false, "é": false, "a\x00": false, "@": false, "[": false, "`": false, "{": false} {
		if Name(s) != want {
			t.Errorf("Name(%q) is not %v", s, want)
		}
	}
}

func TestSplit(t *testing.T) { // 1.2, 1.3
	for _, c := range [][3]string{{"ab1+c", "ab1", "+c"}, {"12a", "12", "a"}, {"", "", ""}, {"+1", "", "+1"}, {"_1 2", "_1", " 2"}, {"007", "007", ""}, {"a12345678901234567890.", "a12345678901234567890", "."}} {
		a, b := Split(c[0])
		if a != c[1] || b != c[2] || a+b != c[0] {
			t.Errorf("Split(%q): %q, %q", c[0], a, b)
		}
	}
}

func TestBackAgain(t *testing.T) { // 1.3
	for n := 0; n <= api.MaxCount; n += 1 + n/3 {
		if got, e := Read(Text(n)); got != n || e != api.OK {
			t.Errorf("%d comes back as %d, %v", n, got, e)
		}
	}
	for _, s := range []string{"0", "1", "01", "1 ", "x", "268435456", "268435457", "-0"} {
		if n, e := Read(s); e == api.OK && Text(n) != s {
			t.Errorf("%q is read, and is not what is written of %d", s, n)
		}
	}
}
