package rel_test

import (
	"math"
	"slices"
	"testing"

	"weir/api"
	"weir/rel"
)

// stands reads the bit itself, so that the other calls are held against the matrix and not against rel.Has.
func stands(r api.Rel, a, b int) bool { return r.Rows[a]>>b&1 == 1 }

// build is the relation of the pairs that a rule picks.
func build(n int, rule func(a, b int) bool) api.Rel {
	r := api.Rel{N: n}
	for a := range n {
		for b := range n {
			if rule(a, b) {
				r.Rows[a] |= 1 << b
			}
		}
	}
	return r
}

// every are all relations over n numbers.
func every(n int) []api.Rel {
	var l []api.Rel
	for w := range 1 << (n * n) {
		l = append(l, build(n, func(a, b int) bool { return w>>(a*n+b)&1 == 1 }))
	}
	return l
}

// dice is a row of words that look unruly and are the same at every run.
func dice(seed uint64) func() uint64 {
	return func() uint64 {
		seed += 0x9e3779b97f4a7c15
		z := (seed ^ seed>>30) * 0xbf58476d1ce4e5b9
		z = (z ^ z>>27) * 0x94d049bb133111eb
		return z ^ z>>31
	}
}

// mixed are k relations over n numbers, of which about one pair in part stands.
func mixed(n, k, part int) []api.Rel {
	next := dice(uint64(n*1000 + part))
	var l []api.Rel
	for range k {
		l = append(l, build(n, func(a, b int) bool { return next()%uint64(part) == 0 }))
	}
	return l
}

func chain(n int) api.Rel { return build(n, func(a, b int) bool { return b == a+1 }) }
func ring(n int) api.Rel  { return build(n, func(a, b int) bool { return b == (a+1)%n }) }
func full(n int) api.Rel  { return build(n, func(a, b int) bool { return true }) }
func upper(n int) api.Rel { return build(n, func(a, b int) bool { return a < b }) }
func none(n int) api.Rel  { return api.Rel{N: n} }

// great are relations of many numbers, up to the limit.
func great() []api.Rel {
	l := []api.Rel{chain(64), ring(64), full(64), upper(64), none(64), full(63), chain(33)}
	for _, n := range []int{7, 33, 63, 64} {
		for _, part := range []int{2, n / 2, 2 * n} {
			l = append(l, mixed(n, 2, part)...)
		}
	}
	return l
}

// small are all relations of at most three numbers.
func small() []api.Rel { return slices.Concat(every(0), every(1), every(2), every(3)) }

// broken are relations that are not right.
func broken() []api.Rel {
	var l []api.Rel
	for _, n := range []int{-1, 65, 64 + 1<<32, math.MaxInt, math.MinInt} {
		l = append(l, api.Rel{N: n}, api.Rel{N: n, Rows: [64]uint64{1, 1}})
	}
	for _, n := range []int{0, 1, 2, 40, 63} {
		inside := full(n)
		low, high, below, last := inside, inside, inside, inside
		low.Rows[0] |= 1 << n
		high.Rows[0] |= 1 << 63
		below.Rows[n] = 1
		last.Rows[63] = 1 << 63
		l = append(l, low, high, below, last)
	}
	return l
}

func edges(l ...int) []api.Edge {
	var e []api.Edge
	for i := 0; i < len(l); i += 2 {
		e = append(e, api.Edge{A: l[i], B: l[i+1]})
	}
	return e
}

func of(t *testing.T, n int, l ...int) api.Rel {
	t.Helper()
	r, err := rel.Of(n, edges(l...))
	if err != api.OK {
		t.Fatalf("Of(%d, %v): %v", n, l, err)
	}
	return r
}

func pairs(r api.Rel) []api.Edge { return slices.Collect(rel.Edges(r)) }

// 2.1
func TestCheck(t *testing.T) {
	for _, r := range slices.Concat(small(), great()) {
		if err := rel.Check(r); err != api.OK {
			t.Fatalf("Check of a right relation over %d: %v", r.N, err)
		}
	}
	for _, r := range broken() {
		if err := rel.Check(r); err != api.ErrRel {
			t.Errorf("Check of %v: %v", r, err)
		}
	}
}

// 2.1
func TestBrokenIsVoid(t *testing.T) {
	for _, r := range broken() {
		for name, call := range map[string]func(api.Rel) api.Rel{
			"Inverse": rel.Inverse, "Not": rel.Not, "Opt": rel.Opt, "Plus": rel.Plus, "Star": rel.Star,
			"Restrict": func(r api.Rel) api.Rel { return rel.Restrict(r, math.MaxUint64, math.MaxUint64) },
		} {
			if got := call(r); got != (api.Rel{}) {
				t.Errorf("%s of %v: %v", name, r, got)
			}
		}
		if rel.Has(r, 0, 0) || rel.Has(r, 0, 1) || rel.Has(r, 63, 63) || rel.Count(r) != 0 || len(pairs(r)) != 0 {
			t.Errorf("%v has pairs", r)
		}
		if rel.Domain(r) != 0 || rel.Range(r) != 0 || len(rel.Parts(r)) != 0 {
			t.Errorf("%v has numbers", r)
		}
		if !rel.Irreflexive(r) || !rel.Transitive(r) || !rel.Acyclic(r) {
			t.Errorf("%v is not taken for void", r)
		}
		if l, ok := rel.Cycle(r); ok || len(l) != 0 {
			t.Errorf("Cycle of %v: %v, %v", r, l, ok)
		}
		if l, ok := rel.Extend(r); !ok || len(l) != 0 {
			t.Errorf("Extend of %v: %v, %v", r, l, ok)
		}
		if l := slices.Collect(rel.Extends(r)); len(l) != 1 || len(l[0]) != 0 {
			t.Errorf("Extends of %v: %v", r, l)
		}
		if s, ok := rel.Reduce(r); !ok || s != (api.Rel{}) {
			t.Errorf("Reduce of %v: %v, %v", r, s, ok)
		}
	}
}

// ofTwo are the calls of two relations.
func ofTwo() map[string]func(r, s api.Rel) api.Rel {
	return map[string]func(r, s api.Rel) api.Rel{"Union": rel.Union, "Meet": rel.Meet, "Minus": rel.Minus, "Compose": rel.Compose}
}

// 2.1
func TestUnlikeAreVoid(t *testing.T) {
	for name, call := range ofTwo() {
		for _, r := range []api.Rel{none(0), full(1), full(2), full(63), full(64)} {
			for _, s := range slices.Concat(broken(), []api.Rel{none(0), full(1), full(2), full(63), full(64)}) {
				if r == s {
					continue
				}
				if got := call(r, s); got != (api.Rel{}) {
					t.Errorf("%s over %d and %d: %v", name, r.N, s.N, got)
				}
				if got := call(s, r); got != (api.Rel{}) {
					t.Errorf("%s over %d and %d: %v", name, s.N, r.N, got)
				}
			}
		}
		for _, s := range broken() {
			if got := call(s, s); got != (api.Rel{}) {
				t.Errorf("%s of %v twice: %v", name, s, got)
			}
		}
	}
}

// 2.2
func TestOf(t *testing.T) {
	for _, c := range []struct {
		n   int
		l   []api.Edge
		err api.Errno
	}{
		{0, nil, api.OK}, {0, []api.Edge{}, api.OK}, {64, nil, api.OK}, {1, edges(0, 0), api.OK},
		{64, edges(63, 0, 0, 63, 63, 63), api.OK}, {3, edges(0, 1, 0, 1, 0, 1), api.OK},
		{65, nil, api.ErrRange}, {-1, nil, api.ErrRange}, {math.MaxInt, nil, api.ErrRange}, {math.MinInt, nil, api.ErrRange},
		{65, edges(0, 1), api.ErrRange}, {-1, edges(0, 1), api.ErrRange},
		{0, edges(0, 0), api.ErrRange}, {3, edges(0, 3), api.ErrRange}, {3, edges(3, 0), api.ErrRange},
		{3, edges(-1, 0), api.ErrRange}, {3, edges(0, -1), api.ErrRange}, {3, edges(0, 1, 1, 2, 2, 3), api.ErrRange},
		{64, edges(64, 0), api.ErrRange}, {64, edges(0, 64), api.ErrRange},
		{64, edges(math.MaxInt, math.MinInt), api.ErrRange}, {64, edges(0, math.MinInt), api.ErrRange},
	} {
		want := api.Rel{}
		if c.err == api.OK {
			want = build(c.n, func(a, b int) bool { return slices.Contains(c.l, api.Edge{A: a, B: b}) })
		}
		if r, err := rel.Of(c.n, c.l); r != want || err != c.err {
			t.Errorf("Of(%d, %v): %v, %v", c.n, c.l, r, err)
		}
	}
	for _, r := range slices.Concat(small(), great()) {
		if got, err := rel.Of(r.N, pairs(r)); got != r || err != api.OK {
			t.Fatalf("Of of the pairs of %v: %v, %v", r, got, err)
		}
	}
}

// 2.2
func TestCrossAndOn(t *testing.T) {
	words := []api.Set{0, 1, 2, 6, 0x8000000000000001, 0xaaaaaaaaaaaaaaaa, math.MaxUint64, 1 << 63, 1 << 62}
	for _, n := range []int{0, 1, 2, 3, 62, 63, 64} {
		for _, from := range words {
			if got, want := rel.On(n, from), build(n, func(a, b int) bool { return a == b && from>>a&1 == 1 }); got != want {
				t.Errorf("On(%d, %x): %v", n, from, got)
			}
			for _, to := range words {
				want := build(n, func(a, b int) bool { return from>>a&1 == 1 && to>>b&1 == 1 })
				if got := rel.Cross(n, from, to); got != want {
					t.Errorf("Cross(%d, %x, %x): %v", n, from, to, got)
				}
			}
		}
	}
	for _, n := range []int{-1, 65, math.MaxInt, math.MinInt} {
		if rel.Cross(n, math.MaxUint64, math.MaxUint64) != (api.Rel{}) || rel.On(n, math.MaxUint64) != (api.Rel{}) {
			t.Errorf("over %d numbers there is more than nothing", n)
		}
	}
}

// 2.3
func TestHasAndCount(t *testing.T) {
	outside := []int{-1, -64, 64, 65, 128, math.MaxInt, math.MinInt}
	for _, r := range slices.Concat(small(), great()) {
		count := 0
		for a := range 64 {
			for b := range 64 {
				want := a < r.N && b < r.N && stands(r, a, b)
				if want {
					count++
				}
				if rel.Has(r, a, b) != want {
					t.Fatalf("Has(%v, %d, %d): %v", r, a, b, !want)
				}
			}
		}
		if got := rel.Count(r); got != count {
			t.Fatalf("Count of %v: %d; want %d", r, got, count)
		}
		for _, x := range outside {
			if rel.Has(r, x, 0) || rel.Has(r, 0, x) || rel.Has(r, x, x) {
				t.Fatalf("Has over %d with %d", r.N, x)
			}
		}
	}
}

// 2.11
func TestOfLeavesItsList(t *testing.T) {
	room := edges(0, 1, 1, 2, 2, 3, 9, 9)
	r, err := rel.Of(4, room[:3])
	if err != api.OK || !slices.Equal(room, edges(0, 1, 1, 2, 2, 3, 9, 9)) {
		t.Fatalf("Of changed its list: %v, %v", room, err)
	}
	want := r
	room[0], room[3] = api.Edge{A: 3, B: 3}, api.Edge{A: 2, B: 2}
	if r != want || rel.Count(r) != 3 {
		t.Error("Of kept its list")
	}
}
