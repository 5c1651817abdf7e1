package odo_test

import (
	"math"
	"slices"
	"strconv"
	"testing"

	"weir/api"
	"weir/odo"
)

// sample is a space, and the lists that it must have.
type sample struct {
	name  string
	space *odo.Space
	want  [][]int
}

// lists are all lists of some length with numbers from 0 to top, in their order.
func lists(length, top int) [][]int {
	all := [][]int{nil}
	for range length {
		var longer [][]int
		for _, l := range all {
			for i := range top + 1 {
				longer = append(longer, append(slices.Clone(l), i))
			}
		}
		all = longer
	}
	return all
}

// pick are those of lists that a rule lets pass.
func pick(all [][]int, rule func(l []int) bool) [][]int {
	return slices.DeleteFunc(all, func(l []int) bool { return !rule(l) })
}

func often(l []int, i int) int {
	n := 0
	for _, x := range l {
		if x == i {
			n++
		}
	}
	return n
}

func sum(l []int) int {
	n := 0
	for _, x := range l {
		n += x
	}
	return n
}

func productOf(t *testing.T, sizes ...int) *odo.Space {
	t.Helper()
	s, err := odo.Product(sizes)
	if s == nil || err != api.OK {
		t.Fatalf("Product(%v): %v, %d", sizes, s, err)
	}
	return s
}

func ordersOf(t *testing.T, n int) *odo.Space {
	t.Helper()
	s, err := odo.Orders(n)
	if s == nil || err != api.OK {
		t.Fatalf("Orders(%d): %v, %d", n, s, err)
	}
	return s
}

func weavesOf(t *testing.T, lengths ...int) *odo.Space {
	t.Helper()
	s, err := odo.Weaves(lengths)
	if s == nil || err != api.OK {
		t.Fatalf("Weaves(%v): %v, %d", lengths, s, err)
	}
	return s
}

func text(l []int) string {
	s := ""
	for _, i := range l {
		s += " " + strconv.Itoa(i)
	}
	return s
}

// small are spaces of few lists, each with what its words say, found by asking all lists of the length.
func small(t *testing.T) []sample {
	var all []sample
	for k := range 5 {
		for _, sizes := range lists(k, 3) {
			want := pick(lists(k, 2), func(l []int) bool {
				for i, x := range l {
					if x >= sizes[i] {
						return false
					}
				}
				return true
			})
			all = append(all, sample{"Product" + text(sizes), productOf(t, sizes...), want})
		}
	}
	for n := range 6 {
		want := pick(lists(n, max(0, n-1)), func(l []int) bool {
			for i := range n {
				if often(l, i) != 1 {
					return false
				}
			}
			return true
		})
		all = append(all, sample{"Orders " + strconv.Itoa(n), ordersOf(t, n), want})
	}
	for k := range 5 {
		for _, lengths := range lists(k, 3) {
			if sum(lengths) <= 6 {
				want := pick(lists(sum(lengths), max(0, k-1)), func(l []int) bool {
					for i, n := range lengths {
						if often(l, i) != n {
							return false
						}
					}
					return true
				})
				all = append(all, sample{"Weaves" + text(lengths), weavesOf(t, lengths...), want})
			}
		}
	}
	return all
}

func TestExamples(t *testing.T) {
	p := productOf(t, 2, 3)
	checkWalk(t, "Product 2 3", p.All(), [][]int{{0, 0}, {0, 1}, {0, 2}, {1, 0}, {1, 1}, {1, 2}})
	if l, err := p.At(4); err != api.OK || !slices.Equal(l, []int{1, 1}) {
		t.Errorf("At(4): %v, %d", l, err)
	}
	if n, err := p.Rank([]int{1, 2}); n != 5 || err != api.OK {
		t.Errorf("Rank(1 2): %d, %d", n, err)
	}
	if n, err := p.Rank([]int{2, 0}); n != 0 || err != api.ErrNone {
		t.Errorf("Rank(2 0): %d, %d", n, err)
	}
	if l, err := p.At(6); l != nil || err != api.ErrNone {
		t.Errorf("At(6): %v, %d", l, err)
	}
	checkWalk(t, "Product 2 0", productOf(t, 2, 0).All(), nil)
	checkWalk(t, "Orders 3", ordersOf(t, 3).All(), [][]int{{0, 1, 2}, {0, 2, 1}, {1, 0, 2}, {1, 2, 0}, {2, 0, 1}, {2, 1, 0}})
	checkWalk(t, "Weaves 2 1", weavesOf(t, 2, 1).All(), [][]int{{0, 0, 1}, {0, 1, 0}, {1, 0, 0}})
	checkWalk(t, "Weaves 0 2", weavesOf(t, 0, 2).All(), [][]int{{1, 1}})
	if l, err := weavesOf(t, 3, 3).At(19); err != api.OK || !slices.Equal(l, []int{1, 1, 1, 0, 0, 0}) {
		t.Errorf("Weaves(3, 3).At(19): %v, %d", l, err)
	}
}

// same is a list of k times n.
func same(k, n int) []int { return slices.Repeat([]int{n}, k) }

func TestMaking(t *testing.T) {
	for _, c := range []struct {
		sizes []int
		want  api.Errno
	}{
		{nil, api.OK},
		{[]int{}, api.OK},
		{[]int{0}, api.OK},
		{[]int{math.MaxInt, math.MaxInt, math.MaxInt}, api.OK},
		{same(64, 2), api.OK},
		{same(64, 0), api.OK},
		{same(65, 0), api.ErrLong},
		{same(65, -1), api.ErrLong},
		{same(70000, 1), api.ErrLong},
		{[]int{-1}, api.ErrRange},
		{[]int{1, -1}, api.ErrRange},
		{[]int{math.MinInt, 0}, api.ErrRange},
		{append(same(63, 1), -1), api.ErrRange},
	} {
		if s, err := odo.Product(c.sizes); err != c.want || (s == nil) != (err != api.OK) {
			t.Errorf("Product(%v): %v, %d; want %d", c.sizes, s, err, c.want)
		}
	}
	for n, want := range map[int]api.Errno{0: 0, 1: 0, 20: 0, 63: 0, 64: 0, 65: api.ErrRange, -1: api.ErrRange, math.MinInt: api.ErrRange, math.MaxInt: api.ErrRange} {
		if s, err := odo.Orders(n); err != want || (s == nil) != (err != api.OK) {
			t.Errorf("Orders(%d): %v, %d; want %d", n, s, err, want)
		}
	}
	for _, c := range []struct {
		lengths []int
		want    api.Errno
	}{
		{nil, api.OK},
		{[]int{}, api.OK},
		{[]int{0}, api.OK},
		{[]int{64}, api.OK},
		{[]int{60, 4}, api.OK},
		{[]int{0, 64, 0}, api.OK},
		{same(64, 0), api.OK},
		{same(64, 1), api.OK},
		{[]int{65}, api.ErrLong},
		{[]int{60, 5}, api.ErrLong},
		{[]int{64, 1}, api.ErrLong},
		{append(same(63, 1), 2), api.ErrLong},
		{[]int{math.MaxInt}, api.ErrLong},
		{[]int{math.MaxInt, math.MaxInt, 2}, api.ErrLong},
		{[]int{1, math.MaxInt, math.MaxInt, 1}, api.ErrLong},
		{same(65, 0), api.ErrLong},
		{same(65, -1), api.ErrLong},
		{[]int{-1}, api.ErrRange},
		{[]int{66, -1}, api.ErrRange},
		{[]int{66, -66}, api.ErrRange},
		{[]int{math.MaxInt, math.MaxInt, math.MinInt}, api.ErrRange},
	} {
		if s, err := odo.Weaves(c.lengths); err != c.want || (s == nil) != (err != api.OK) {
			t.Errorf("Weaves(%v): %v, %d; want %d", c.lengths, s, err, c.want)
		}
	}
}

func TestNoSizes(t *testing.T) {
	for _, s := range []*odo.Space{productOf(t), ordersOf(t, 0), weavesOf(t), weavesOf(t, 0), weavesOf(t, same(64, 0)...)} {
		checkSpace(t, "a space of the empty list", s, [][]int{nil})
	}
}

// TestSmall holds every call against the lists of small spaces.
func TestSmall(t *testing.T) {
	for _, c := range small(t) {
		checkSpace(t, c.name, c.space, c.want)
	}
}

func checkSpace(t *testing.T, what string, s *odo.Space, want [][]int) {
	t.Helper()
	size := uint64(len(want))
	if n, err := s.Len(); n != size || err != api.OK {
		t.Fatalf("%s: Len: %d, %d; want %d", what, n, err, size)
	}
	checkWalk(t, what, s.All(), want)
	for i, l := range want {
		if got, err := s.At(uint64(i)); err != api.OK || !slices.Equal(got, l) {
			t.Fatalf("%s: At(%d): %v, %d; want %v", what, i, got, err, l)
		}
		if n, err := s.Rank(l); n != uint64(i) || err != api.OK {
			t.Fatalf("%s: Rank(%v): %d, %d; want %d", what, l, n, err, i)
		}
		from, err := s.From(uint64(i))
		if err != api.OK {
			t.Fatalf("%s: From(%d): %d", what, i, err)
		}
		if i < 4 || i+4 > len(want) {
			checkWalk(t, what+" from "+strconv.Itoa(i), from, want[i:])
		}
	}
	for _, n := range []uint64{size, size + 1, size + 64, math.MaxInt64, math.MaxUint64} {
		checkNone(t, what, s, n, api.ErrNone)
	}
	checkStrangers(t, what, s, want)
}

// checkNone asks for a number that no list has.
func checkNone(t *testing.T, what string, s *odo.Space, n uint64, want api.Errno) {
	t.Helper()
	if l, err := s.At(n); len(l) != 0 || err != want {
		t.Errorf("%s: At(%d): %v, %d; want %d", what, n, l, err, want)
	}
	if from, err := s.From(n); from != nil || err != want {
		t.Errorf("%s: From(%d): %d; want %d", what, n, err, want)
	}
}

// checkStrangers asks for the number of lists that are not in a space, among them all that differ little from one that is.
func checkStrangers(t *testing.T, what string, s *odo.Space, want [][]int) {
	t.Helper()
	strangers := [][]int{nil, {0}, {-1}, {1 << 40}, {math.MinInt}, {math.MaxInt}, make([]int, 64), make([]int, 65), make([]int, 100000)}
	for _, l := range want[:min(len(want), 8)] {
		strangers = append(strangers, append(slices.Clone(l), 0), append([]int{0}, l...), l[:max(0, len(l)-1)])
		for i := range l {
			for _, x := range []int{-1, 0, 1, 2, 3, 4, 5, 6, 63, 64, math.MinInt, math.MaxInt} {
				other := slices.Clone(l)
				other[i] = x
				strangers = append(strangers, other)
			}
		}
	}
	for _, l := range strangers {
		if slices.ContainsFunc(want, func(w []int) bool { return slices.Equal(w, l) }) {
			continue
		}
		if n, err := s.Rank(l); n != 0 || err != api.ErrNone {
			t.Fatalf("%s: Rank(%v): %d, %d", what, l, n, err)
		}
	}
}
