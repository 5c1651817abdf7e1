package verdict_test

import (
	"fmt"
	"slices"
	"strings"

	"weir/api"
	"weir/cond"
	"weir/prog"
	"weir/state"
)

// setOf is the set of some right final states.
func setOf(l []api.Final) []api.Final {
	l = slices.Clone(l)
	slices.SortFunc(l, func(a, b api.Final) int {
		if a.N != b.N {
			return a.N - b.N
		}
		return slices.Compare(a.V[:], b.V[:])
	})
	return slices.Compact(l)
}

// written is a reference as people write it.
func written(r api.Ref) string {
	if r.Thread == -1 {
		return r.Name
	}
	return fmt.Sprintf("%d:%s", r.Thread, r.Name)
}

// cells is what a final state of a program has, by the texts of references.
func cells(p api.Prog, f api.Final) map[string]int64 {
	m := map[string]int64{}
	for i, r := range prog.Names(p) {
		m[written(r)] = f.V[i]
	}
	return m
}

// saysHolds asks the nodes one behind the other: the parts of each have their answers by then.
func saysHolds(t api.Test, p api.Prog, f api.Final) bool {
	values := cells(p, f)
	var l []bool
	for _, n := range t.Cond {
		switch n.Op {
		case api.CTrue:
			l = append(l, true)
		case api.CIs:
			l = append(l, values[written(n.Ref)] == n.Value)
		case api.CNot:
			l = append(l, !l[n.A])
		case api.CAnd:
			l = append(l, l[n.A] && l[n.B])
		case api.COr:
			l = append(l, l[n.A] || l[n.B])
		}
	}
	return l[len(l)-1]
}

func saysSplit(t api.Test, p api.Prog, l []api.Final) ([]api.Final, []api.Final) {
	var with, without []api.Final
	for _, f := range l {
		if saysHolds(t, p, f) {
			with = append(with, f)
		} else {
			without = append(without, f)
		}
	}
	return with, without
}

// saysOk asks member by member.
func saysOk(t api.Test, p api.Prog, l []api.Final) bool {
	holds := func(f api.Final) bool { return saysHolds(t, p, f) }
	switch t.Quant {
	case api.Exists:
		return slices.ContainsFunc(l, holds)
	case api.NotExists:
		return !slices.ContainsFunc(l, holds)
	}
	return !slices.ContainsFunc(l, func(f api.Final) bool { return !holds(f) })
}

// saysLooks is what a test looks at: it is put in order by texts in which locations come last.
func saysLooks(t api.Test) []api.Ref {
	keys := map[string]api.Ref{}
	add := func(r api.Ref) {
		place := r.Thread
		if place == -1 {
			place = 99999
		}
		keys[fmt.Sprintf("%05d:%s", place, r.Name)] = r
	}
	for _, n := range t.Cond {
		if n.Op == api.CIs {
			add(n.Ref)
		}
	}
	for _, r := range t.Watch {
		add(r)
	}
	var order []string
	for k := range keys {
		order = append(order, k)
	}
	slices.Sort(order)
	var l []api.Ref
	for _, k := range order {
		l = append(l, keys[k])
	}
	return l
}

// saysSeen is what a set has for what a test looks at.
func saysSeen(t api.Test, p api.Prog, l []api.Final) []api.Final {
	var seen []api.Final
	for _, f := range l {
		var values []int64
		for _, r := range saysLooks(t) {
			values = append(values, cells(p, f)[written(r)])
		}
		seen = append(seen, of(values...))
	}
	return setOf(seen)
}

// saysReport is the lines that the chapter numbers.
func saysReport(t api.Test, p api.Prog, l []api.Final) string {
	with, without := saysSplit(t, p, l)
	n, k := len(with), len(without)
	words := [][]string{nil, {"Allowed", "exists"}, {"Forbidden", "~exists"}, {"Required", "forall"}}[t.Quant]
	seen := saysSeen(t, p, l)
	lines := []string{fmt.Sprintf("Test %s %s", t.Name, words[0]), fmt.Sprintf("States %d", len(seen))}
	for _, f := range seen {
		text, _ := state.Text(f, saysLooks(t))
		lines = append(lines, text)
	}
	verdict, often := "No", "Sometimes"
	if saysOk(t, p, l) {
		verdict = "Ok"
	}
	if k == 0 {
		often = "Always"
	}
	if n == 0 {
		often = "Never"
	}
	text, _ := cond.Text(t.Cond)
	lines = append(lines, verdict, "Witnesses", fmt.Sprintf("Positive: %d Negative: %d", n, k),
		fmt.Sprintf("Condition %s %s", words[1], text), fmt.Sprintf("Observation %s %s %d %d", t.Name, often, n, k), "")
	return strings.Join(lines, "\n")
}

// saysCross goes through what both sets have: the first that one has alone.
func saysCross(a, b []api.Final) (api.Final, int) {
	for _, f := range setOf(slices.Concat(a, b)) {
		inA, inB := slices.Contains(a, f), slices.Contains(b, f)
		if inA && !inB {
			return f, 1
		}
		if inB && !inA {
			return f, 2
		}
	}
	return api.Final{}, 0
}
