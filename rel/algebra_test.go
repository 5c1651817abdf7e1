package rel_test

import (
	"math"
	"slices"
	"testing"

	"weir/api"
	"weir/rel"
)

// couples are two relations over the same numbers: all of at most two numbers, some of more.
func couples() [][2]api.Rel {
	var l [][2]api.Rel
	for n := range 3 {
		for _, r := range every(n) {
			for _, s := range every(n) {
				l = append(l, [2]api.Rel{r, s})
			}
		}
	}
	three := every(3)
	for i, r := range three {
		for j := i % 29; j < len(three); j += 29 {
			l = append(l, [2]api.Rel{r, three[j]})
		}
	}
	for _, n := range []int{5, 33, 63, 64} {
		some := slices.Concat(mixed(n, 3, 2), mixed(n, 3, n), []api.Rel{full(n), none(n), ring(n)})
		for _, r := range some {
			for _, s := range some {
				l = append(l, [2]api.Rel{r, s})
			}
		}
	}
	return l
}

// between tells whether there is a b with a, b in r and b, c in s.
func between(r, s api.Rel, a, c int) bool {
	for b := range r.N {
		if stands(r, a, b) && stands(s, b, c) {
			return true
		}
	}
	return false
}

// 2.4
func TestOfTwo(t *testing.T) {
	for _, c := range couples() {
		r, s := c[0], c[1]
		for name, rule := range map[string]func(a, b int) bool{
			"Union":   func(a, b int) bool { return stands(r, a, b) || stands(s, a, b) },
			"Meet":    func(a, b int) bool { return stands(r, a, b) && stands(s, a, b) },
			"Minus":   func(a, b int) bool { return stands(r, a, b) && !stands(s, a, b) },
			"Compose": func(a, b int) bool { return between(r, s, a, b) },
		} {
			if got := ofTwo()[name](r, s); got != build(r.N, rule) {
				t.Fatalf("%s of %v and %v: %v", name, pairs(r), pairs(s), pairs(got))
			}
		}
	}
}

// 2.4
func TestInverseNotRestrict(t *testing.T) {
	words := []api.Set{0, 1, 6, 0x8000000000000001, 0x5555555555555555, math.MaxUint64}
	for _, r := range slices.Concat(small(), great()) {
		if got := rel.Inverse(r); got != build(r.N, func(a, b int) bool { return stands(r, b, a) }) {
			t.Fatalf("Inverse of %v: %v", pairs(r), pairs(got))
		}
		if got := rel.Not(r); got != build(r.N, func(a, b int) bool { return !stands(r, a, b) }) {
			t.Fatalf("Not of %v: %v", pairs(r), pairs(got))
		}
		for _, from := range words {
			for _, to := range words {
				want := build(r.N, func(a, b int) bool { return stands(r, a, b) && from>>a&1 == 1 && to>>b&1 == 1 })
				if got := rel.Restrict(r, from, to); got != want {
					t.Fatalf("Restrict(%v, %x, %x): %v", pairs(r), from, to, pairs(got))
				}
			}
		}
	}
}

// ways is the pairs with a way of at least least steps, taken step by step; no way need be longer than n more, since a number would come twice.
func ways(r api.Rel, least int) api.Rel {
	step, sum := r, none(r.N)
	for k := 1; k <= r.N+least; k++ {
		if k >= least {
			sum = build(r.N, func(a, b int) bool { return stands(sum, a, b) || stands(step, a, b) })
		}
		last := step
		step = build(r.N, func(a, b int) bool { return between(last, r, a, b) })
	}
	return sum
}

// 2.5
func TestClosures(t *testing.T) {
	some := slices.Concat(small(), mixed(4, 60, 3), mixed(5, 60, 4), mixed(9, 30, 9), mixed(17, 3, 17))
	for _, r := range some {
		plus := ways(r, 1)
		if got := rel.Plus(r); got != plus {
			t.Fatalf("Plus of %v: %v", pairs(r), pairs(got))
		}
		if got := rel.Star(r); got != build(r.N, func(a, b int) bool { return a == b || stands(plus, a, b) }) {
			t.Fatalf("Star of %v: %v", pairs(r), pairs(got))
		}
	}
	for _, r := range slices.Concat(some, great()) {
		if got := rel.Opt(r); got != build(r.N, func(a, b int) bool { return a == b || stands(r, a, b) }) {
			t.Fatalf("Opt of %v: %v", pairs(r), pairs(got))
		}
	}
	if rel.Plus(chain(64)) != upper(64) || rel.Plus(ring(64)) != full(64) || rel.Plus(upper(64)) != upper(64) {
		t.Error("Plus over 64 numbers")
	}
	backward := build(64, func(a, b int) bool { return b == a-1 })
	if rel.Plus(backward) != rel.Inverse(upper(64)) || rel.Star(chain(64)) != build(64, func(a, b int) bool { return a <= b }) {
		t.Error("Plus or Star over 64 numbers")
	}
}

// 2.5
func TestDomainAndRange(t *testing.T) {
	for _, r := range slices.Concat(small(), great()) {
		var first, second api.Set
		for a := range r.N {
			for b := range r.N {
				if stands(r, a, b) {
					first |= 1 << a
					second |= 1 << b
				}
			}
		}
		if rel.Domain(r) != first || rel.Range(r) != second {
			t.Fatalf("of %v: from %x, to %x", pairs(r), rel.Domain(r), rel.Range(r))
		}
	}
}

// 2.6
func TestKinds(t *testing.T) {
	for _, r := range slices.Concat(small(), mixed(4, 200, 5), mixed(6, 100, 12)) {
		irreflexive, transitive, acyclic := true, true, true
		plus := ways(r, 1)
		for a := range r.N {
			irreflexive = irreflexive && !stands(r, a, a)
			acyclic = acyclic && !stands(plus, a, a)
			for b := range r.N {
				transitive = transitive && (stands(r, a, b) || !between(r, r, a, b))
			}
		}
		if rel.Irreflexive(r) != irreflexive || rel.Transitive(r) != transitive || rel.Acyclic(r) != acyclic {
			t.Fatalf("%v: %v, %v, %v; want %v, %v, %v", pairs(r), rel.Irreflexive(r), rel.Transitive(r), rel.Acyclic(r), irreflexive, transitive, acyclic)
		}
	}
	for _, c := range []struct {
		r                                api.Rel
		irreflexive, transitive, acyclic bool
	}{
		{none(64), true, true, true}, {chain(64), true, false, true}, {ring(64), true, false, false},
		{full(64), false, true, false}, {upper(64), true, true, true}, {of(t, 64, 63, 63), false, true, false},
		{of(t, 64, 0, 63, 63, 0), true, false, false}, {of(t, 64, 0, 63), true, true, true},
	} {
		if rel.Irreflexive(c.r) != c.irreflexive || rel.Transitive(c.r) != c.transitive || rel.Acyclic(c.r) != c.acyclic {
			t.Errorf("%v: %v, %v, %v", pairs(c.r), rel.Irreflexive(c.r), rel.Transitive(c.r), rel.Acyclic(c.r))
		}
	}
}

// 2.12
func TestLawsOfSets(t *testing.T) {
	for _, c := range couples() {
		r, s := c[0], c[1]
		if rel.Not(rel.Not(r)) != r || rel.Minus(r, s) != rel.Meet(r, rel.Not(s)) || rel.Not(rel.Union(r, s)) != rel.Meet(rel.Not(r), rel.Not(s)) {
			t.Fatalf("%v, %v: Not, Minus, Union or Meet", pairs(r), pairs(s))
		}
		if rel.Count(rel.Union(r, s))+rel.Count(rel.Meet(r, s)) != rel.Count(r)+rel.Count(s) || rel.Union(r, s) != rel.Union(s, r) {
			t.Fatalf("%v, %v: counts", pairs(r), pairs(s))
		}
		if rel.Inverse(rel.Compose(r, s)) != rel.Compose(rel.Inverse(s), rel.Inverse(r)) {
			t.Fatalf("%v, %v: Inverse of Compose", pairs(r), pairs(s))
		}
		one := rel.On(r.N, math.MaxUint64)
		if rel.Compose(r, one) != r || rel.Compose(one, r) != r {
			t.Fatalf("%v: the one of Compose", pairs(r))
		}
		u := rel.Not(rel.Compose(s, r))
		if rel.Compose(rel.Compose(r, s), u) != rel.Compose(r, rel.Compose(s, u)) {
			t.Fatalf("%v, %v: Compose is not associative", pairs(r), pairs(s))
		}
		if rel.Compose(r, rel.Union(s, u)) != rel.Union(rel.Compose(r, s), rel.Compose(r, u)) || rel.Compose(rel.Union(s, u), r) != rel.Union(rel.Compose(s, r), rel.Compose(u, r)) {
			t.Fatalf("%v, %v: Compose does not spread", pairs(r), pairs(s))
		}
	}
}

// within tells whether all pairs of r stand in s.
func within(r, s api.Rel) bool { return rel.Minus(r, s) == none(r.N) }

// 2.13
func TestPlusIsLeast(t *testing.T) {
	for n := range 4 {
		all := every(n)
		for _, r := range all {
			plus := rel.Plus(r)
			if !within(r, plus) || !rel.Transitive(plus) {
				t.Fatalf("Plus of %v: %v", pairs(r), pairs(plus))
			}
			for _, s := range all {
				if within(r, s) && rel.Transitive(s) && !within(plus, s) {
					t.Fatalf("Plus of %v is not least: %v", pairs(r), pairs(s))
				}
			}
		}
	}
	for _, r := range slices.Concat(small(), great()) {
		plus, star := rel.Plus(r), rel.Star(r)
		if rel.Plus(plus) != plus || rel.Star(star) != star {
			t.Fatalf("Plus or Star twice, of %v", pairs(r))
		}
	}
}
