package rel_test

import (
	"slices"
	"testing"

	"weir/api"
	"weir/rel"
)

// lists are all lists of k numbers below n, the first ones first.
func lists(n, k int) [][]int {
	if k == 0 {
		return [][]int{nil}
	}
	var all [][]int
	for _, l := range lists(n, k-1) {
		for a := range n {
			all = append(all, append(slices.Clone(l), a))
		}
	}
	return all
}

// goesRound tells whether l is a way back to its first number.
func goesRound(r api.Rel, l []int) bool {
	for i, a := range l {
		if !stands(r, a, l[(i+1)%len(l)]) {
			return false
		}
	}
	return true
}

// 2.7
func TestCycleOfAll(t *testing.T) {
	for n := range 6 {
		var all [][]int // the least k first, then number by number
		for k := range n {
			all = append(all, lists(n, k+1)...)
		}
		var some []api.Rel
		if n < 5 {
			some = every(n)
		} else {
			some = slices.Concat(mixed(n, 1000, 3), mixed(n, 1000, 5), mixed(n, 1000, 9))
		}
		for _, r := range some {
			at := slices.IndexFunc(all, func(l []int) bool { return goesRound(r, l) })
			var want []int
			if at >= 0 {
				want = all[at]
			}
			if got, ok := rel.Cycle(r); ok != (at >= 0) || !slices.Equal(got, want) {
				t.Fatalf("Cycle of %v: %v, %v; want %v", pairs(r), got, ok, want)
			}
		}
	}
}

// 2.7, and the chapter's example 2
func TestCycle(t *testing.T) {
	up, down := make([]int, 64), make([]int, 64)
	for i := range 64 {
		up[i], down[i] = i, (64-i)%64
	}
	for _, c := range []struct {
		r    api.Rel
		want []int
	}{
		{of(t, 3, 0, 1, 1, 2, 2, 0, 2, 1), []int{1, 2}},
		{of(t, 3, 2, 2, 0, 1, 1, 0), []int{2}},
		{of(t, 64, 63, 63, 0, 1, 1, 0), []int{63}},
		{of(t, 64, 63, 62, 62, 63), []int{62, 63}},
		{of(t, 64, 63, 62, 62, 63, 0, 1, 1, 2, 2, 0), []int{62, 63}},
		{of(t, 6, 0, 4, 4, 1, 1, 0, 0, 3, 3, 5, 5, 0), []int{0, 3, 5}},
		{of(t, 6, 0, 3, 3, 5, 5, 0, 3, 2, 2, 0), []int{0, 3, 2}},
		{of(t, 5, 0, 1, 1, 2, 2, 3, 3, 1), []int{1, 2, 3}},
		{ring(64), up}, {rel.Inverse(ring(64)), down}, {full(64), []int{0}},
		{rel.Not(rel.On(64, 1<<64-1)), []int{0, 1}},
		{chain(64), nil}, {upper(64), nil}, {none(64), nil}, {none(0), nil},
	} {
		if got, ok := rel.Cycle(c.r); ok != (c.want != nil) || !slices.Equal(got, c.want) {
			t.Errorf("Cycle of %v: %v, %v; want %v", pairs(c.r), got, ok, c.want)
		}
	}
}

// partsOf are the parts as the words of the promise find them.
func partsOf(r api.Rel) []api.Set {
	plus := ways(r, 1)
	var parts []api.Set
	for a := range r.N {
		part := api.Set(0)
		for b := range r.N {
			if a == b || stands(plus, a, b) && stands(plus, b, a) {
				part |= 1 << b
			}
		}
		if !slices.Contains(parts, part) {
			parts = append(parts, part)
		}
	}
	return parts
}

// 2.8
func TestParts(t *testing.T) {
	for _, r := range slices.Concat(small(), mixed(4, 300, 4), mixed(6, 300, 8), mixed(9, 50, 12)) {
		if got, want := rel.Parts(r), partsOf(r); !slices.Equal(got, want) {
			t.Fatalf("Parts of %v: %v; want %v", pairs(r), got, want)
		}
	}
	ones := make([]api.Set, 64)
	for i := range ones {
		ones[i] = 1 << i
	}
	for _, c := range []struct {
		r    api.Rel
		want []api.Set
	}{
		{none(0), nil}, {of(t, 3, 0, 1, 1, 2, 2, 0, 2, 1), []api.Set{7}},
		{of(t, 4, 0, 2, 2, 0, 1, 0), []api.Set{5, 2, 8}},
		{of(t, 4, 3, 0, 0, 3, 1, 2, 2, 1, 0, 1), []api.Set{9, 6}},
		{ring(64), []api.Set{1<<64 - 1}}, {full(64), []api.Set{1<<64 - 1}}, {chain(64), ones}, {none(64), ones},
		{rel.On(64, 1<<64-1), ones},
	} {
		if got := rel.Parts(c.r); !slices.Equal(got, c.want) {
			t.Errorf("Parts of %v: %v; want %v", pairs(c.r), got, c.want)
		}
	}
}

// 2.14
func TestAcyclicAllWays(t *testing.T) {
	for _, r := range slices.Concat(small(), great(), mixed(4, 2000, 4), mixed(12, 50, 12), mixed(64, 20, 90)) {
		acyclic := rel.Acyclic(r)
		_, round := rel.Cycle(r)
		_, order := rel.Extend(r)
		single := len(rel.Parts(r)) == r.N && rel.Irreflexive(r)
		if round == acyclic || order != acyclic || single != acyclic {
			t.Fatalf("%v: acyclic %v, a cycle %v, an order %v, parts of one %v", pairs(r), acyclic, round, order, single)
		}
	}
}

// 2.11
func TestCycleAndPartsAreNew(t *testing.T) {
	r := of(t, 5, 1, 3, 3, 1, 2, 4)
	l, _ := rel.Cycle(r)
	spoil(l, 9)
	if again, ok := rel.Cycle(r); !ok || !slices.Equal(again, []int{1, 3}) {
		t.Errorf("Cycle again: %v, %v", again, ok)
	}
	spoil(rel.Parts(r), 9)
	if again := rel.Parts(r); !slices.Equal(again, []api.Set{1, 10, 4, 16}) {
		t.Errorf("Parts again: %v", again)
	}
}

// spoil writes over a list and the spare room behind it.
func spoil[T any](l []T, x T) {
	l = l[:cap(l)]
	for i := range l {
		l[i] = x
	}
}
