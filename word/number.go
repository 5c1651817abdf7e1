package word

import (
	"math"
	"strings"

	"weir/api"
)

// number is a number's text in its parts.
type number struct {
	minus  bool
	base   uint64
	digits string
	length int // of the whole number, its - and 0x too
}

// cut is the longest number at the beginning of a text; one without digits is none.
func cut(s string) number {
	minus := strings.HasPrefix(s, "-")
	begin := 0
	if minus {
		begin = 1
	}
	var n number
	if marked(s[begin:]) {
		n = run(s, begin+2, 16)
	}
	// A mark without a digit behind it is none: its 0 is a number by itself.
	if n.digits == "" {
		n = run(s, begin, 10)
	}
	n.minus = minus
	return n
}

// marked tells whether a text begins as hexadecimal numbers do.
func marked(s string) bool {
	return strings.HasPrefix(s, "0x") || strings.HasPrefix(s, "0X")
}

// run is the number whose digits are all those that stand from a place on.
func run(s string, begin int, base uint64) number {
	end := begin
	for end < len(s) && digit(s[end]) < base {
		end++
	}
	return number{base: base, digits: s[begin:end], length: end}
}

// digit is what a byte says as a digit; of a byte that is none it is above all bases.
func digit(c byte) uint64 {
	switch {
	case '0' <= c && c <= '9':
		return uint64(c - '0')
	case 'a' <= c && c <= 'f':
		return uint64(c-'a') + 10
	case 'A' <= c && c <= 'F':
		return uint64(c-'A') + 10
	}
	return math.MaxUint64
}

// value is what a number says.
func (n number) value() (int64, api.Errno) {
	size, ok := n.size()
	switch {
	case !ok || n.minus && size > 1<<63:
		return 0, api.ErrBig
	case n.minus:
		return -int64(size), api.OK
	}
	return int64(size), api.OK
}

// size is what a number's digits say, and whether that has no more than 64 bits.
func (n number) size() (uint64, bool) {
	size := uint64(0)
	for i := range len(n.digits) {
		d := digit(n.digits[i])
		// Asked ahead of the sum, which could wrap round.
		if size > (math.MaxUint64-d)/n.base {
			return 0, false
		}
		size = size*n.base + d
	}
	return size, true
}
