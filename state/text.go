package state

import (
	"strconv"
	"strings"

	"weir/api"
	"weir/word"
)

// Text is a final state's text.
func Text(f api.Final, names []api.Ref) (string, api.Errno) {
	if Check(f) != api.OK || len(names) != f.N {
		return "", api.ErrRange
	}
	var s strings.Builder
	for i, r := range names {
		if i > 0 {
			s.WriteString(" ")
		}
		s.WriteString(owner(r) + r.Name + "=" + word.Text(f.V[i]) + ";")
	}
	return s.String(), api.OK
}

// owner is what stands ahead of a name: nothing, if it is a location's.
func owner(r api.Ref) string {
	if r.Thread == -1 {
		return ""
	}
	return strconv.Itoa(r.Thread) + ":"
}

// Code is a final state's code.
func Code(f api.Final) (string, api.Errno) {
	if Check(f) != api.OK {
		return "", api.ErrRange
	}
	var s strings.Builder
	s.WriteString(word.Put(int64(f.N)))
	for _, v := range f.V[:f.N] {
		s.WriteString(word.Put(v))
	}
	return s.String(), api.OK
}

// Decode is the final state that has a code.
func Decode(s string) (api.Final, api.Errno) {
	n, at, err := word.Take(s, 0)
	if err != api.OK || n < 0 || n > api.MaxFinal {
		return api.Final{}, api.ErrState
	}
	f := api.Final{N: int(n)}
	for i := range f.N {
		v, length, err := word.Take(s, at)
		if err != api.OK {
			return api.Final{}, api.ErrState
		}
		f.V[i] = v
		at += length
	}
	if at != len(s) {
		return api.Final{}, api.ErrState
	}
	return f, api.OK
}
