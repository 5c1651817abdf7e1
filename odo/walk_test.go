package odo_test

import (
	"iter"
	"math"
	"slices"
	"testing"

	"weir/api"
	"weir/odo"
)

func alike(a, b [][]int) bool { return slices.EqualFunc(a, b, slices.Equal[[]int]) }

// checkWalk goes through an iterator as far as the end, again, left at each place, within itself, and pulled.
func checkWalk(t *testing.T, what string, all iter.Seq[[]int], want [][]int) {
	t.Helper()
	if all == nil {
		t.Fatalf("%s is nil", what)
	}
	for range 2 {
		if got := slices.Collect(all); !alike(got, want) {
			t.Fatalf("%s goes through %v; want %v", what, got, want)
		}
	}
	for n := range min(len(want), 8) {
		if got := take(all, n+1); !alike(got, want[:n+1]) {
			t.Fatalf("%s, left after %d: %v", what, n+1, got)
		}
	}
	checkNested(t, what, all, want)
	checkPulled(t, what, all, want)
	checkSpoilt(t, what, all, want)
}

// take is the first n lists, or as many as there are.
func take(all iter.Seq[[]int], n int) [][]int {
	var got [][]int
	for l := range all {
		got = append(got, l)
		if len(got) == n {
			break
		}
	}
	return got
}

func checkNested(t *testing.T, what string, all iter.Seq[[]int], want [][]int) {
	t.Helper()
	if len(want) > 30 {
		return
	}
	n := 0
	for l := range all {
		if inner := take(all, n+1); !slices.Equal(l, want[n]) || !alike(inner, want[:n+1]) {
			t.Fatalf("%s within itself, at %d: %v, %v", what, n, l, inner)
		}
		n++
	}
}

func checkPulled(t *testing.T, what string, all iter.Seq[[]int], want [][]int) {
	t.Helper()
	nextA, stopA := iter.Pull(all)
	defer stopA()
	nextB, stopB := iter.Pull(all)
	defer stopB()
	for _, w := range want {
		a, okA := nextA()
		b, okB := nextB()
		if !slices.Equal(a, w) || !slices.Equal(b, w) || !okA || !okB {
			t.Fatalf("%s, pulled by two: %v, %v; want %v", what, a, b, w)
		}
	}
	if l, ok := nextA(); ok {
		t.Fatalf("%s, pulled behind its end: %v", what, l)
	}
}

// spoil writes all over a list, and into the spare room behind its end.
func spoil(l []int) {
	l = l[:cap(l)]
	for i := range l {
		l[i] = -77
	}
}

// checkSpoilt spoils each list as soon as it is handed out: the others must not be touched by that, nor those that were handed out ahead.
func checkSpoilt(t *testing.T, what string, all iter.Seq[[]int], want [][]int) {
	t.Helper()
	kept := take(all, 3)
	n := 0
	for l := range all {
		if n >= len(want) || !slices.Equal(l, want[n]) {
			t.Fatalf("%s, with the lists ahead spoilt: %v at %d", what, l, n)
		}
		spoil(l)
		n++
	}
	if n != len(want) || !alike(kept, want[:min(3, len(want))]) {
		t.Fatalf("%s, with the lists ahead spoilt: %d lists, %v kept", what, n, kept)
	}
}

// TestNewMemory changes what was handed in, and what was handed out.
func TestNewMemory(t *testing.T) {
	room := []int{2, 1, 9}
	for _, build := range []func([]int) (*odo.Space, api.Errno){odo.Product, odo.Weaves} {
		in := slices.Clone(room)[:2]
		s, _ := build(in)
		before := slices.Collect(s.All())
		l, _ := s.At(1)
		copied := slices.Clone(l)
		spoil(in)
		spoil(l)
		if again, err := s.At(1); err != api.OK || !slices.Equal(again, copied) || !alike(slices.Collect(s.All()), before) {
			t.Errorf("%v behind a change: %v, %d, %v", before, again, err, slices.Collect(s.All()))
		}
		in = slices.Clone(room)
		s, _ = build(in[:2])
		l = append(slices.Clone(before[1]), 5)
		s.Len()
		s.At(1)
		if n, err := s.Rank(l[:len(l)-1]); n != 1 || err != api.OK {
			t.Errorf("Rank(%v): %d, %d", before[1], n, err)
		}
		if !slices.Equal(in, room) || !slices.Equal(l, append(slices.Clone(before[1]), 5)) {
			t.Errorf("handed in: %v, and %v; now %v and %v", room, before[1], in, l)
		}
	}
	o := ordersOf(t, 3)
	l := []int{2, 0, 1, 8}
	if n, err := o.Rank(l[:3]); n != 4 || err != api.OK || !slices.Equal(l, []int{2, 0, 1, 8}) {
		t.Errorf("Rank: %d, %d; the list is now %v", n, err, l)
	}
	wrong := []int{2, 2, 1}
	if n, err := o.Rank(wrong); n != 0 || err != api.ErrNone || !slices.Equal(wrong, []int{2, 2, 1}) {
		t.Errorf("Rank: %d, %d; the list is now %v", n, err, wrong)
	}
}

// TestUncountable: nothing has a number there, and yet all can be gone through.
func TestUncountable(t *testing.T) {
	rising := make([]int, 64)
	for i := range rising {
		rising[i] = i
	}
	with := func(l []int, at ...int) []int {
		l = slices.Clone(l)
		for i, x := range at {
			l[len(l)-len(at)+i] = x
		}
		return l
	}
	third := append(append(same(22, 0), same(21, 1)...), same(21, 2)...)
	swapped := slices.Clone(third)
	swapped[42], swapped[43] = 2, 1
	for _, c := range []struct {
		name  string
		space *odo.Space
		first [][]int
	}{
		{"Product of 64 sizes 2", productOf(t, same(64, 2)...), [][]int{with(same(64, 0), 0), with(same(64, 0), 1), with(same(64, 0), 1, 0), with(same(64, 0), 1, 1)}},
		{"Product of greatest sizes", productOf(t, math.MaxInt, math.MaxInt), [][]int{{0, 0}, {0, 1}, {0, 2}}},
		{"Product of 2 and greatest ones", productOf(t, math.MaxInt, math.MaxInt, 2), [][]int{{0, 0, 0}, {0, 0, 1}, {0, 1, 0}}},
		{"Product of three greatest halves", productOf(t, math.MaxInt, 3), [][]int{{0, 0}, {0, 1}, {0, 2}, {1, 0}}},
		{"Orders 21", ordersOf(t, 21), [][]int{rising[:21], with(rising[:21], 20, 19), with(rising[:21], 19, 18, 20)}},
		{"Orders 64", ordersOf(t, 64), [][]int{rising, with(rising, 63, 62), with(rising, 62, 61, 63)}},
		{"Weaves of 64 ones", weavesOf(t, same(64, 1)...), [][]int{rising, with(rising, 63, 62), with(rising, 62, 61, 63)}},
		{"Weaves 22 21 21", weavesOf(t, 22, 21, 21), [][]int{third, swapped}},
	} {
		if n, err := c.space.Len(); n != 0 || err != api.ErrCount {
			t.Errorf("%s: Len: %d, %d", c.name, n, err)
		}
		for _, n := range []uint64{0, 1, math.MaxUint64} {
			checkNone(t, c.name, c.space, n, api.ErrCount)
		}
		for _, l := range [][]int{c.first[0], c.first[1], nil, {-1}} {
			if n, err := c.space.Rank(l); n != 0 || err != api.ErrCount {
				t.Errorf("%s: Rank(%v): %d, %d", c.name, l, n, err)
			}
		}
		if got := take(c.space.All(), len(c.first)); !alike(got, c.first) {
			t.Errorf("%s begins %v; want %v", c.name, got, c.first)
		}
	}
}
