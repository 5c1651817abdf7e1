package cycle

import (
	"slices"

	"weir/api"
)

// Of a cycle so many edges go out, and so many lead away, at least.
const (
	leastOut  = 2
	leastAway = 2
)

// checked is the numbers of a cycle's edges; or the place of the first edge that keeps a list from being one, and the error.
func checked(names []string) ([]int, int, api.Errno) {
	if len(names) > most {
		return nil, 0, api.ErrLong
	}
	l, bad := numbersOf(names)
	if bad >= 0 {
		return nil, bad, api.ErrCycle
	}
	for i, n := range l {
		if edges[l[ahead(l, i)]].to != edges[n].from {
			return nil, i, api.ErrCycle
		}
	}
	if len(l) < fewest || count(l, goesOut) < leastOut || count(l, leadsAway) < leastAway {
		return nil, 0, api.ErrCycle
	}
	return l, 0, api.OK
}

// canonical is the canonical form of a cycle.
func canonical(l []int) []int {
	var first []int
	for i := range l {
		if !goesOut(l[ahead(l, i)]) {
			continue
		}
		turn := slices.Concat(l[i:], l[:i])
		if first == nil || slices.Compare(turn, first) < 0 {
			first = turn
		}
	}
	return first
}

// ahead is the place ahead of a place, going round.
func ahead(l []int, i int) int { return (i + len(l) - 1) % len(l) }

// behind is the place behind a place, going round.
func behind(l []int, i int) int { return (i + 1) % len(l) }

// count is how many edges are as is asked.
func count(l []int, is func(int) bool) int {
	k := 0
	for _, n := range l {
		if is(n) {
			k++
		}
	}
	return k
}
