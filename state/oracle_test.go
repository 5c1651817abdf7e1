package state_test

import (
	"encoding/binary"
	"fmt"
	"math"
	"slices"
	"strings"
	"testing"

	"weir/api"
)

// of is the final state of some values.
func of(l ...int64) api.Final {
	f := api.Final{N: len(l)}
	copy(f.V[:], l)
	return f
}

// odd is a final state, right or not: N, and one member of V that is v.
func odd(n, at int, v int64) api.Final {
	f := api.Final{N: n}
	f.V[at] = v
	return f
}

// dice is a row of numbers that look unruly and are the same at every run.
func dice(seed uint64) func(n int) int {
	return func(n int) int {
		seed += 0x9e3779b97f4a7c15
		z := (seed ^ seed>>30) * 0xbf58476d1ce4e5b9
		z = (z ^ z>>27) * 0x94d049bb133111eb
		return int((z ^ z>>31) % uint64(n))
	}
}

// some is an unruly final state, right as a rule.
func some(roll func(int) int) api.Final {
	f := api.Final{N: roll(4)}
	if roll(8) == 0 {
		f.N = 46 + roll(3)
	}
	for i := range f.N {
		f.V[i] = values()[roll(len(values()))]
	}
	switch roll(16) {
	case 0:
		f.N = []int{math.MinInt, -1, 49, 50, math.MaxInt}[roll(5)]
	case 1:
		f.V[roll(api.MaxFinal)] = 1
	}
	return f
}

// someList is an unruly list of final states.
func someList(roll func(int) int, longest int) []api.Final {
	l := make([]api.Final, roll(longest+1))
	for i := range l {
		l[i] = some(roll)
	}
	return l
}

func values() []int64 {
	return []int64{0, 1, -1, 2, 63, 64, -64, -65, 127, 128, 255, 256, 1 << 31, 1<<63 - 1, -1 << 63, -1<<63 + 1}
}

// strangers is final states of which each is at some edge: right ones, and ones that are not.
func strangers() []api.Final {
	l := []api.Final{of(), of(5), of(1, 2), of(1, 3), of(2, 0), of(1, -1), of(0), of(-1), of(0, 0), of(0, 1), of(1, 0)}
	for _, v := range []int64{math.MinInt64, -1, 1, math.MaxInt64} {
		l = append(l, of(v), of(v, v), of(0, v), of(v, 0))
		for _, n := range []int{math.MinInt, -1, 0, 1, 2, 47, 48, 49, math.MaxInt} {
			for _, at := range []int{0, 1, 2, 46, 47} {
				l = append(l, odd(n, at, v))
			}
		}
	}
	for _, n := range []int{math.MinInt, math.MinInt + 1, -49, -1, 47, 48, 49, 50, 1 << 32, math.MaxInt} {
		l = append(l, api.Final{N: n})
	}
	return l
}

// isRight is whether nothing is left of a final state but what its N first members say.
func isRight(f api.Final) bool {
	return 0 <= f.N && f.N <= 48 && f == of(f.V[:f.N]...)
}

// key is a text of a final state, so made that texts byte by byte have the order of final states.
func key(f api.Final) string {
	b := binary.BigEndian.AppendUint64(nil, uint64(f.N)^1<<63)
	for _, v := range f.V {
		b = binary.BigEndian.AppendUint64(b, uint64(v)^1<<63)
	}
	return string(b)
}

// saysSort is the set of the right ones: each is put at the number of others that stand ahead of it.
func saysSort(l []api.Final) []api.Final {
	right := map[string]api.Final{}
	for _, f := range l {
		if isRight(f) {
			right[key(f)] = f
		}
	}
	set := make([]api.Final, len(right))
	for k, f := range right {
		set[ahead(right, k)] = f
	}
	return set
}

func ahead(right map[string]api.Final, k string) int {
	n := 0
	for other := range right {
		if other < k {
			n++
		}
	}
	return n
}

// saysRises is whether all are right, and any two rise.
func saysRises(l []api.Final) bool {
	for i, f := range l {
		if !isRight(f) {
			return false
		}
		for _, g := range l[:i] {
			if key(g) >= key(f) {
				return false
			}
		}
	}
	return true
}

func has(l []api.Final, f api.Final) bool { return slices.Contains(l, f) }

// saysProject is what 10.4 says, each member and number looked at by itself.
func saysProject(l []api.Final, keep []int) ([]api.Final, api.Errno) {
	if !saysRises(l) {
		return nil, api.ErrSet
	}
	if len(keep) > 48 {
		return nil, api.ErrLong
	}
	var parts []api.Final
	for _, f := range l {
		p := make([]int64, 0, 48)
		for _, k := range keep {
			if !slices.Contains(numbers(f.N), k) {
				return nil, api.ErrRange
			}
			p = append(p, f.V[k])
		}
		parts = append(parts, of(p...))
	}
	return saysSort(parts), api.OK
}

// numbers is the numbers from 0 to n - 1.
func numbers(n int) []int {
	l := make([]int, n)
	for i := range l {
		l[i] = i
	}
	return l
}

// saysText is what 10.5 says.
func saysText(f api.Final, names []api.Ref) (string, api.Errno) {
	if !isRight(f) || len(names) != f.N {
		return "", api.ErrRange
	}
	l := make([]string, f.N)
	for i, r := range names {
		l[i] = fmt.Sprintf("%d:%s=%d;", r.Thread, r.Name, f.V[i])
		if r.Thread == -1 {
			l[i] = fmt.Sprintf("%s=%d;", r.Name, f.V[i])
		}
	}
	return strings.Join(l, " "), api.OK
}

// saysCode is a final state's code: chapter 4's code of a value is what encoding/binary calls a varint.
func saysCode(f api.Final) (string, api.Errno) {
	if !isRight(f) {
		return "", api.ErrRange
	}
	b := binary.AppendVarint(nil, int64(f.N))
	for _, v := range f.V[:f.N] {
		b = binary.AppendVarint(b, v)
	}
	return string(b), api.OK
}

// saysDecode is the one right final state whose code the text may be, if it is.
func saysDecode(s string) (api.Final, api.Errno) {
	var l []int64
	for b := []byte(s); len(b) > 0 && len(l) <= 49; {
		v, n := binary.Varint(b)
		if n <= 0 {
			break
		}
		l, b = append(l, v), b[n:]
	}
	if len(l) == 0 || len(l) > 49 {
		return api.Final{}, api.ErrState
	}
	f := of(l[1:]...)
	if code, _ := saysCode(f); code != s {
		return api.Final{}, api.ErrState
	}
	return f, api.OK
}

func same(a, b []api.Final) bool { return slices.Equal(a, b) }

// short is final states by their values, for telling.
func short(l ...api.Final) string {
	var s []string
	for _, f := range l {
		n := max(0, min(f.N, 48))
		text := fmt.Sprint(f.V[:n])
		if !isRight(f) {
			text = fmt.Sprint("wrong, N ", f.N, " ", f.V)
		}
		s = append(s, text)
	}
	return fmt.Sprintf("%.600s", strings.Join(s, " "))
}

// lists hands on all lists of at most n members of some.
func lists[T any](members []T, n int, do func([]T)) {
	do(nil)
	row := [][]T{nil}
	for range n {
		var next [][]T
		for _, l := range row {
			for _, m := range members {
				longer := append(slices.Clone(l), m)
				do(longer)
				next = append(next, longer)
			}
		}
		row = next
	}
}

// subsets is all sets of some final states.
func subsets(members []api.Final) [][]api.Final {
	var all [][]api.Final
	for bits := range 1 << len(members) {
		var l []api.Final
		for i, f := range members {
			if bits>>i&1 == 1 {
				l = append(l, f)
			}
		}
		all = append(all, saysSort(l))
	}
	return all
}

// spare is a list with two members more behind its end.
func spare[T any](l []T, rest T) []T {
	full := append(append([]T{}, l...), rest, rest)
	return full[:len(l)]
}

// wholeOf is what a list holds, its spare room too.
func wholeOf[T any](l []T) string { return fmt.Sprint(len(l), l[:cap(l)]) }

func mustOK(t *testing.T, e api.Errno) {
	t.Helper()
	if e != api.OK {
		t.Errorf("error %d; want none", e)
	}
}
