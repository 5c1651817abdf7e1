package verdict

import (
	"slices"

	"weir/api"
	"weir/cond"
	"weir/prog"
	"weir/state"
)

// programOf is the program of a test, for which a list of final states must be fitting.
func programOf(t api.Test, l []api.Final) (api.Prog, api.Errno) {
	p, e := prog.Of(t)
	if e != api.OK {
		return api.Prog{}, e
	}
	if !fitting(p, l) {
		return api.Prog{}, api.ErrSet
	}
	return p, api.OK
}

// fitting tells whether a list is a set of final states that have a program's values.
func fitting(p api.Prog, l []api.Final) bool {
	n := len(prog.Names(p))
	for _, f := range l {
		if f.N != n {
			return false
		}
	}
	return state.Rises(l)
}

// asker tells of fitting final states whether a test's condition holds. A set may be great: names are looked up ahead of it, once.
func asker(t api.Test, p api.Prog) func(api.Final) bool {
	numbers := map[api.Ref]int{}
	for i, r := range prog.Names(p) {
		numbers[r] = i
	}
	return func(f api.Final) bool {
		ok, _ := cond.Holds(t.Cond, func(r api.Ref) int64 { return f.V[numbers[r]] })
		return ok
	}
}

// count is of how many final states something holds, and of how many not.
func count(l []api.Final, holds func(api.Final) bool) (int, int) {
	positive := 0
	for _, f := range l {
		if holds(f) {
			positive++
		}
	}
	return positive, len(l) - positive
}

// fulfilled tells whether a question is answered with yes, by of how many final states its condition holds, and of how many not.
func fulfilled(quant, positive, negative int) bool {
	switch quant {
	case api.Exists:
		return positive > 0
	case api.NotExists:
		return positive == 0
	}
	return negative == 0
}

// looksAt is the references that a test looks at, and the numbers of their values. The names of a program rise as these must.
func looksAt(t api.Test, p api.Prog) ([]api.Ref, []int) {
	asked, _ := cond.Refs(t.Cond)
	var refs []api.Ref
	var numbers []int
	for i, r := range prog.Names(p) {
		if slices.Contains(asked, r) || slices.Contains(t.Watch, r) {
			refs = append(refs, r)
			numbers = append(numbers, i)
		}
	}
	return refs, numbers
}
