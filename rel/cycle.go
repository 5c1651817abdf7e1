package rel

import "weir/api"

// Acyclic tells whether no way leads back.
func Acyclic(r api.Rel) bool { return Irreflexive(Plus(r)) }

// Cycle is a shortest way that leads back.
func Cycle(r api.Rel) ([]int, bool) {
	r = right(r)
	into := Inverse(r)
	var best []int
	for a := range r.N {
		l := round(r, into, a)
		if best == nil || l != nil && len(l) < len(best) {
			best = l
		}
	}
	return best, best != nil
}

// Parts is the sets of numbers that lead to one another.
func Parts(r api.Rel) []api.Set {
	star := Star(r)
	both := Meet(star, Inverse(star))
	var parts []api.Set
	for a := range both.N {
		if lowest(both.Rows[a]) == a {
			parts = append(parts, api.Set(both.Rows[a]))
		}
	}
	return parts
}

// round is the first of the shortest ways from a back to a; there may be none. into is the inverse of r.
func round(r, into api.Rel, a int) []int {
	home := rings(r, into, a)
	if home == nil {
		return nil
	}
	l := []int{a}
	for at := a; len(l) < len(home); l = append(l, at) {
		// A number with a shorter way home would make a shorter way round, so that the ring of just this many steps has them all.
		at = lowest(r.Rows[at] & home[len(home)-len(l)])
	}
	return l
}

// rings is the numbers by how many steps they are away from a, as far as a steps into one of them; nothing, if a comes into none.
func rings(r, into api.Rel, a int) []uint64 {
	seen := uint64(0)
	var home []uint64
	for ring := uint64(1) << a; ring != 0; ring = before(into, ring) &^ seen {
		seen |= ring
		home = append(home, ring)
		if r.Rows[a]&ring != 0 {
			return home
		}
	}
	return nil
}

// before is the numbers that stand to one of a row.
func before(into api.Rel, row uint64) uint64 {
	var from uint64
	for b := range each(row) {
		from |= into.Rows[b]
	}
	return from
}
