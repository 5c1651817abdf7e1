package rel_test

import (
	"iter"
	"math"
	"slices"
	"testing"

	"weir/api"
	"weir/rel"
)

// orders are the lists of all numbers in which each pair goes forward, the first ones first.
func orders(r api.Rel) [][]int {
	return slices.DeleteFunc(lists(r.N, r.N), func(l []int) bool {
		for i, a := range l {
			for _, b := range l[:i] {
				if a == b || stands(r, a, b) {
					return true
				}
			}
			if stands(r, a, a) {
				return true
			}
		}
		return false
	})
}

func same(a, b [][]int) bool { return slices.EqualFunc(a, b, slices.Equal[[]int]) }

// 2.9
func TestExtendsOfAll(t *testing.T) {
	for _, r := range slices.Concat(small(), mixed(4, 200, 6), mixed(4, 100, 12), mixed(5, 60, 20)) {
		want := orders(r)
		if got := slices.Collect(rel.Extends(r)); !same(got, want) {
			t.Fatalf("Extends of %v: %v; want %v", pairs(r), got, want)
		}
		got, ok := rel.Extend(r)
		if ok != (len(want) > 0) || ok && !slices.Equal(got, want[0]) || !ok && len(got) > 0 {
			t.Fatalf("Extend of %v: %v, %v; want %v", pairs(r), got, ok, want)
		}
	}
}

// 2.9, and the chapter's example 3
func TestExtend(t *testing.T) {
	up, down := make([]int, 64), make([]int, 64)
	for i := range 64 {
		up[i], down[i] = i, 63-i
	}
	for _, c := range []struct {
		r    api.Rel
		want []int
		ok   bool
	}{
		{of(t, 4, 2, 0, 1, 0), []int{1, 2, 0, 3}, true}, {of(t, 4, 3, 0), []int{1, 2, 3, 0}, true},
		{none(0), nil, true}, {none(1), []int{0}, true}, {of(t, 1, 0, 0), nil, false}, {of(t, 2, 1, 1), nil, false},
		{of(t, 2, 0, 1, 1, 0), nil, false}, {none(64), up, true}, {chain(64), up, true}, {upper(64), up, true},
		{rel.Inverse(chain(64)), down, true}, {ring(64), nil, false}, {of(t, 64, 63, 63), nil, false},
	} {
		if got, ok := rel.Extend(c.r); ok != c.ok || !slices.Equal(got, c.want) {
			t.Errorf("Extend of %v: %v, %v; want %v, %v", pairs(c.r), got, ok, c.want, c.ok)
		}
	}
	if got := slices.Collect(rel.Extends(of(t, 3, 1, 0))); !same(got, [][]int{{1, 0, 2}, {1, 2, 0}, {2, 1, 0}}) {
		t.Errorf("Extends: %v", got)
	}
	if got := slices.Collect(rel.Extends(none(0))); len(got) != 1 || len(got[0]) != 0 {
		t.Errorf("Extends of no numbers: %v", got)
	}
}

// What was not asked for is not laid out: 64 free numbers have more orders than could be gone through, and beside a cycle none of them counts.
func TestExtendsIsLazy(t *testing.T) {
	next, stop := iter.Pull(rel.Extends(none(64)))
	want, ok := rel.Extend(none(64))
	for i := range 3 {
		if l, more := next(); !more || !ok || !slices.Equal(l[:61], want[:61]) {
			t.Fatalf("order %d: %v, %v", i, l, more)
		}
	}
	stop()
	for _, r := range []api.Rel{of(t, 64, 62, 63, 63, 62), of(t, 64, 63, 63), of(t, 64, 0, 1, 1, 0), ring(64)} {
		for l := range rel.Extends(r) {
			t.Fatalf("Extends of %v: %v", pairs(r), l)
		}
	}
}

// 2.3
func TestEdges(t *testing.T) {
	for _, r := range slices.Concat(small(), great()) {
		var want []api.Edge
		for a := range r.N {
			for b := range r.N {
				if stands(r, a, b) {
					want = append(want, api.Edge{A: a, B: b})
				}
			}
		}
		walk(t, rel.Edges(r), want, func(x, y api.Edge) bool { return x == y })
	}
	for r := range slices.Values(broken()) {
		walk(t, rel.Edges(r), nil, func(x, y api.Edge) bool { return x == y })
	}
}

// 2.9
func TestExtendsAgain(t *testing.T) {
	for _, r := range []api.Rel{none(0), none(1), none(4), of(t, 4, 2, 0, 1, 0), of(t, 5, 0, 4, 1, 4), of(t, 2, 0, 1, 1, 0), {N: -1}} {
		want := [][]int{nil}
		if r.N >= 0 {
			want = orders(r)
		}
		walk(t, rel.Extends(r), want, slices.Equal[[]int])
	}
}

// walk goes through an iterator to the end, twice, left at each place, within itself, and pulled.
func walk[T any](t *testing.T, all iter.Seq[T], want []T, eq func(x, y T) bool) {
	t.Helper()
	if all == nil {
		t.Fatal("an iterator is nil")
	}
	for range 2 {
		if got := slices.Collect(all); !slices.EqualFunc(got, want, eq) {
			t.Fatalf("%v; want %v", got, want)
		}
	}
	for n := range min(len(want), 70) {
		var got []T
		for x := range all {
			got = append(got, x)
			for y := range all {
				if !eq(y, want[0]) {
					t.Fatalf("within itself: %v; want %v", y, want[0])
				}
				break
			}
			if len(got) == n+1 {
				break
			}
		}
		if !slices.EqualFunc(got, want[:n+1], eq) {
			t.Fatalf("left after %d: %v; want %v", n+1, got, want[:n+1])
		}
	}
	next, stop := iter.Pull(all)
	defer stop()
	for _, w := range want {
		if x, ok := next(); !ok || !eq(x, w) {
			t.Fatalf("pulled: %v, %v; want %v", x, ok, w)
		}
	}
	if x, ok := next(); ok {
		t.Fatalf("pulled behind the end: %v", x)
	}
}

// 2.11
func TestOrdersAreNew(t *testing.T) {
	r := of(t, 4, 1, 0)
	want := orders(r)
	var got, kept [][]int
	for l := range rel.Extends(r) {
		got = append(got, slices.Clone(l))
		kept = append(kept, l)
		spoil(l, 9)
	}
	if !same(got, want) {
		t.Errorf("Extends, its lists written over: %v; want %v", got, want)
	}
	for i, l := range kept {
		spoil(l, i)
	}
	for i, l := range kept {
		if slices.ContainsFunc(l, func(x int) bool { return x != i }) {
			t.Errorf("lists of Extends share memory: %v", l)
		}
	}
	l, _ := rel.Extend(r)
	spoil(l, 9)
	if again, ok := rel.Extend(r); !ok || !slices.Equal(again, want[0]) {
		t.Errorf("Extend again: %v, %v", again, ok)
	}
}

// 2.10
func TestReduce(t *testing.T) {
	for _, r := range slices.Concat(small(), mixed(4, 2000, 4), mixed(6, 300, 12), mixed(9, 50, 30)) {
		long := ways(r, 2)
		var want api.Rel
		ok := rel.Acyclic(r)
		if ok {
			want = build(r.N, func(a, b int) bool { return stands(r, a, b) && !stands(long, a, b) })
		}
		if got, was := rel.Reduce(r); got != want || was != ok {
			t.Fatalf("Reduce of %v: %v, %v; want %v", pairs(r), pairs(got), was, pairs(want))
		}
	}
	if got, ok := rel.Reduce(upper(64)); !ok || got != chain(64) {
		t.Errorf("Reduce over 64 numbers: %v, %v", pairs(got), ok)
	}
	for _, r := range []api.Rel{ring(64), full(64), of(t, 64, 63, 63), of(t, 2, 0, 1, 1, 0)} {
		if got, ok := rel.Reduce(r); ok || got != (api.Rel{}) {
			t.Errorf("Reduce of %v: %v, %v", pairs(r), pairs(got), ok)
		}
	}
}

// 2.15
func TestReduceIsLeast(t *testing.T) {
	some := slices.Concat(small(), mixed(6, 200, 12), []api.Rel{upper(64), chain(64), none(64)})
	for _, r := range mixed(40, 10, 3) {
		some = append(some, rel.Meet(r, upper(40)))
	}
	for _, r := range some {
		s, ok := rel.Reduce(r)
		if !ok {
			continue
		}
		plus := rel.Plus(r)
		if rel.Plus(s) != plus {
			t.Fatalf("Reduce of %v has another Plus: %v", pairs(r), pairs(s))
		}
		for e := range rel.Edges(s) {
			less := s
			less.Rows[e.A] &^= 1 << e.B
			if rel.Plus(less) == plus {
				t.Fatalf("Reduce of %v: %v is one too many", pairs(r), e)
			}
		}
	}
}

// Sets and numbers of any kind are answered without a panic.
func TestOutsideOfAll(t *testing.T) {
	for _, n := range []int{math.MinInt, -1, 0, 1, 63, 64, 65, math.MaxInt} {
		for _, x := range []int{math.MinInt, -1, 0, 63, 64, math.MaxInt} {
			rel.Of(n, edges(x, x))
			rel.Has(api.Rel{N: n, Rows: full(64).Rows}, x, x)
			rel.Cross(n, api.Set(x), math.MaxUint64)
			rel.On(n, api.Set(x))
		}
	}
}
