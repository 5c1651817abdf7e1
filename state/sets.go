package state

import "weir/api"

// Union is what either set has.
func Union(a, b []api.Final) ([]api.Final, api.Errno) {
	return choose(a, b, func(inA, inB bool) bool { return inA || inB })
}

// Meet is what both have.
func Meet(a, b []api.Final) ([]api.Final, api.Errno) {
	return choose(a, b, func(inA, inB bool) bool { return inA && inB })
}

// Minus is what the first one has alone.
func Minus(a, b []api.Final) ([]api.Final, api.Errno) {
	return choose(a, b, func(inA, inB bool) bool { return inA && !inB })
}

// choose is the set of the members that are wanted, as it is told which of both sets have them.
func choose(a, b []api.Final, wanted func(inA, inB bool) bool) ([]api.Final, api.Errno) {
	if !Rises(a) || !Rises(b) {
		return nil, api.ErrSet
	}
	var l []api.Final
	walk(a, b, func(f api.Final, inA, inB bool) {
		if wanted(inA, inB) {
			l = append(l, f)
		}
	})
	return l, api.OK
}

// walk goes over both sets side by side, so that each member of either is handed on once, and in the order.
func walk(a, b []api.Final, visit func(f api.Final, inA, inB bool)) {
	for len(a) > 0 && len(b) > 0 {
		switch order := Compare(a[0], b[0]); {
		case order < 0:
			visit(a[0], true, false)
			a = a[1:]
		case order > 0:
			visit(b[0], false, true)
			b = b[1:]
		default:
			visit(a[0], true, true)
			a, b = a[1:], b[1:]
		}
	}
	for _, f := range a {
		visit(f, true, false)
	}
	for _, f := range b {
		visit(f, false, true)
	}
}

// Project is the set of what some of the values are.
func Project(l []api.Final, keep []int) ([]api.Final, api.Errno) {
	if !Rises(l) {
		return nil, api.ErrSet
	}
	if len(keep) > api.MaxFinal {
		return nil, api.ErrLong
	}
	// The first member of a set has the fewest values.
	if len(l) > 0 && !within(keep, l[0].N) {
		return nil, api.ErrRange
	}
	kept := make([]api.Final, len(l))
	for i, f := range l {
		kept[i] = part(f, keep)
	}
	return Sort(kept), api.OK
}

// within tells whether all numbers are from 0 to n - 1.
func within(numbers []int, n int) bool {
	for _, k := range numbers {
		if k < 0 || k >= n {
			return false
		}
	}
	return true
}

// part is the final state of the values that have these numbers.
func part(f api.Final, keep []int) api.Final {
	p := api.Final{N: len(keep)}
	for i, k := range keep {
		p.V[i] = f.V[k]
	}
	return p
}
