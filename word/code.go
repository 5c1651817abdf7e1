package word

import "weir/api"

// longest is how many bytes a code has at most: nine of seven bits each, and one of the last bit.
const longest = 10

// Put is a value's code.
func Put(v int64) string {
	u := fold(v)
	var code []byte
	for ; u >= 128; u /= 128 {
		code = append(code, byte(u%128)+128)
	}
	return string(append(code, byte(u)))
}

// Take is the value whose code stands at a place, and how many bytes it has.
func Take(s string, at int) (int64, int, api.Errno) {
	if at < 0 || at >= len(s) {
		return 0, 0, api.ErrNumber
	}
	u := uint64(0)
	for i := range min(longest, len(s)-at) {
		b := s[at+i]
		if i == longest-1 && b > 1 || i > 0 && b == 0 {
			break
		}
		u |= uint64(b%128) << (7 * i)
		if b < 128 {
			return unfold(u), i + 1, api.OK
		}
	}
	return 0, 0, api.ErrNumber
}

// fold lays the values from 0 on and those below 0 by turns, so that all near 0 have short codes.
func fold(v int64) uint64 {
	if v < 0 {
		return ^(uint64(v) << 1)
	}
	return uint64(v) << 1
}

// unfold is the value that fold made a number of.
func unfold(u uint64) int64 {
	if u%2 == 1 {
		return ^int64(u >> 1)
	}
	return int64(u >> 1)
}
