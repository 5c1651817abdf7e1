package hist

import (
	"slices"

	"weir/api"
	"weir/cond"
	"weir/prog"
	"weir/state"
)

// asker tells of the final states of a right histogram's rows whether the condition holds. Rows may be many: names are looked up ahead of them, once.
func asker(h api.Hist) func(api.Final) bool {
	numbers := map[api.Ref]int{}
	for i, r := range h.Refs {
		numbers[r] = i
	}
	return func(f api.Final) bool {
		ok, _ := cond.Holds(h.Cond, func(r api.Ref) int64 { return f.V[numbers[r]] })
		return ok
	}
}

// count is how often the condition held, and how often not, of a right histogram.
func count(h api.Hist) (int64, int64) {
	holds := asker(h)
	positive := int64(0)
	for _, r := range h.Rows {
		if holds(r.Final) {
			positive += r.Count
		}
	}
	return positive, total(h.Rows) - positive
}

// total is all counts together, of rows whose sum is known to be no greater than can be.
func total(l []api.Row) int64 {
	sum := int64(0)
	for _, r := range l {
		sum += r.Count
	}
	return sum
}

// alike tells whether two histograms ask the same of what has the same name.
func alike(a, b api.Hist) bool {
	return a.Name == b.Name && a.Quant == b.Quant && slices.Equal(a.Cond, b.Cond)
}

// ends tells whether final states are a program's, each by itself: unlike a set they may stand in any order, and come again.
func ends(p api.Prog, runs []api.Final) bool {
	n := len(prog.Names(p))
	return !slices.ContainsFunc(runs, func(f api.Final) bool { return f.N != n || state.Check(f) != api.OK })
}

// numbersOf is where the values of some references stand in a program's final states.
func numbersOf(p api.Prog, refs []api.Ref) []int {
	var l []int
	for _, r := range refs {
		i, _ := prog.Index(p, r)
		l = append(l, i)
	}
	return l
}

// part is the final state of some values of another one.
func part(f api.Final, numbers []int) api.Final {
	g := api.Final{N: len(numbers)}
	for i, n := range numbers {
		g.V[i] = f.V[n]
	}
	return g
}

// rowsOf is final states and how often they were seen, in order.
func rowsOf(seen map[api.Final]int64) []api.Row {
	var l []api.Row
	for f, n := range seen {
		l = append(l, api.Row{Count: n, Final: f})
	}
	slices.SortFunc(l, func(a, b api.Row) int { return state.Compare(a.Final, b.Final) })
	return l
}

func finals(l []api.Row) []api.Final {
	var set []api.Final
	for _, r := range l {
		set = append(set, r.Final)
	}
	return set
}
