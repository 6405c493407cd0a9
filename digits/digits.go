// Package digits is layer 1: numbers and names in writing. See shared/doc/01-digits.md.
package digits

import (
	"strconv"

	"weft/api"
)

// role tells whether a byte may begin a name, and whether it may stand further behind in one: of the two a digit may do only the latter.
func role(b byte) (first, behind bool) {
	switch {
	case 'A' <= b && b <= 'Z', 'a' <= b && b <= 'z', b == '_':
		first = true
		fallthrough
	case '0' <= b && b <= '9':
		behind = true
	}
	return first, behind
}

func letter(b byte) bool {
	first, _ := role(b)
	return first
}

func digit(b byte) bool {
	first, behind := role(b)
	return behind && !first
}

func letterOrDigit(b byte) bool {
	_, behind := role(b)
	return behind
}

// run is how many bytes at a text's beginning are of a class.
func run(s string, class func(byte) bool) int {
	n := 0
	for n < len(s) && class(s[n]) {
		n++
	}
	return n
}

// Text is a number's digits.
func Text(n int) string { return strconv.Itoa(n) }

// Read is the count that a text says.
func Read(s string) (int, api.Errno) {
	switch {
	case s == "":
		return 0, api.ErrShort
	case run(s, digit) < len(s), s[0] == '0' && len(s) > 1:
		return 0, api.ErrField
	}
	n := 0
	for i := range len(s) {
		n = 10*n + int(s[i]-'0')
		if n > api.MaxCount { // asked at each digit, so that no length of text wraps the number round
			return 0, api.ErrRange
		}
	}
	return n, api.OK
}

// Name tells whether a text is a name.
func Name(s string) bool {
	return s != "" && len(s) <= api.MaxName && letter(s[0]) && run(s, letterOrDigit) == len(s)
}

// Split is a text's longest beginning that is a name, or a count, and the rest.
func Split(s string) (string, string) {
	class := digit
	if s != "" && letter(s[0]) {
		class = letterOrDigit
	}
	n := run(s, class)
	return s[:n], s[n:]
}
