package sets_test

import (
	"cmp"
	"iter"
	"math"
	"slices"
	"testing"

	"weir/api"
	"weir/sets"
)

// small are sets of few numbers, so that all within them can be gone through.
func small() []api.Set {
	return []api.Set{0, 1, 1 << 63, 5, 1<<63 | 1, 0xff, 0xff << 56, 0x8040201008040201, 1<<40 | 0x2b1}
}

// within are the sets within s, rising, found by asking all words over the numbers of s.
func within(s api.Set) []api.Set {
	l := members(s)
	var all []api.Set
	for w := range 1 << len(l) {
		var t api.Set
		for k, i := range l {
			if w>>k&1 == 1 {
				t |= 1 << i
			}
		}
		all = append(all, t)
	}
	slices.Sort(all)
	return all
}

func ofSize(l []api.Set, k int) []api.Set {
	return slices.DeleteFunc(slices.Clone(l), func(t api.Set) bool { return len(members(t)) != k })
}

// checkWalk goes through an iterator as far as the end, again, left at each place, within itself, and pulled.
func checkWalk[T cmp.Ordered](t *testing.T, what string, all iter.Seq[T], want []T) {
	t.Helper()
	if all == nil {
		t.Fatalf("%s is nil", what)
	}
	for range 2 {
		if got := slices.Collect(all); !slices.Equal(got, want) {
			t.Fatalf("%s goes through %v; want %v", what, got, want)
		}
	}
	for n := range len(want) {
		var got []T
		for x := range all {
			got = append(got, x)
			if len(got) == n+1 {
				break
			}
		}
		if !slices.Equal(got, want[:n+1]) {
			t.Fatalf("%s, left after %d: %v", what, n+1, got)
		}
	}
	checkNested(t, what, all, want)
	checkPulled(t, what, all, want)
}

func checkNested[T cmp.Ordered](t *testing.T, what string, all iter.Seq[T], want []T) {
	t.Helper()
	if len(want) > 70 {
		return
	}
	var outer []T
	for x := range all {
		outer = append(outer, x)
		var inner []T
		for y := range all {
			inner = append(inner, y)
			if y == x {
				break
			}
		}
		if !slices.Equal(inner, want[:len(outer)]) {
			t.Fatalf("%s within itself, at %v: %v", what, x, inner)
		}
	}
	if !slices.Equal(outer, want) {
		t.Fatalf("%s around itself: %v", what, outer)
	}
}

func checkPulled[T cmp.Ordered](t *testing.T, what string, all iter.Seq[T], want []T) {
	t.Helper()
	nextA, stopA := iter.Pull(all)
	defer stopA()
	nextB, stopB := iter.Pull(all)
	defer stopB()
	for _, w := range want {
		a, okA := nextA()
		b, okB := nextB()
		if a != w || b != w || !okA || !okB {
			t.Fatalf("%s, pulled by two: %v, %v; want %v", what, a, b, w)
		}
	}
	if x, ok := nextA(); ok {
		t.Fatalf("%s, pulled behind its end: %v", what, x)
	}
}

func TestEach(t *testing.T) {
	for _, s := range append(samples(), small()...) {
		checkWalk(t, "Each("+sets.Text(s)+")", sets.Each(s), members(s))
	}
}

// TestSmallWalks goes through all sets within small ones; that they are 2 to the Size(s), each once, and those of all k together, is in it.
func TestSmallWalks(t *testing.T) {
	for _, s := range small() {
		all := within(s)
		checkWalk(t, "Subsets("+sets.Text(s)+")", sets.Subsets(s), all)
		n := 0
		for _, k := range []int{math.MinInt, -2, -1, 0, 1, 2, 3, 4, 5, 6, 7, 8, 9, 63, 64, 65, math.MaxInt} {
			checkWalk(t, "Choose("+sets.Text(s)+")", sets.Choose(s, k), ofSize(all, k))
			for range sets.Choose(s, k) {
				n++
			}
		}
		if n != 1<<sets.Size(s) {
			t.Errorf("Choose goes through %d sets in all within %x", n, s)
		}
	}
}

func take(all iter.Seq[api.Set], n int) []api.Set {
	var l []api.Set
	for s := range all {
		if len(l) == n {
			break
		}
		l = append(l, s)
	}
	return l
}

func TestWalksOfTheFullSet(t *testing.T) {
	for i, s := range take(sets.Subsets(full), 2000) {
		if s != api.Set(i) {
			t.Fatalf("Subsets(all): %x at %d", s, i)
		}
	}
	checkWalk(t, "Choose(all, -1)", sets.Choose(full, -1), nil)
	checkWalk(t, "Choose(all, 0)", sets.Choose(full, 0), []api.Set{0})
	checkWalk(t, "Choose(all, 64)", sets.Choose(full, 64), []api.Set{full})
	checkWalk(t, "Choose(all, 65)", sets.Choose(full, 65), nil)
	var ones, others []api.Set
	for i := range 64 {
		ones = append(ones, 1<<i)
		others = append(others, full&^(1<<(63-i)))
	}
	checkWalk(t, "Choose(all, 1)", sets.Choose(full, 1), ones)
	checkWalk(t, "Choose(all, 63)", sets.Choose(full, 63), others)
	if l := take(sets.Choose(full, 32), 3); !slices.Equal(l, []api.Set{1<<32 - 1, 1<<33 - 1 - 1<<31, 1<<33 - 1 - 1<<30}) {
		t.Errorf("Choose(all, 32) begins %x", l)
	}
	count, last := 0, api.Set(0)
	for s := range sets.Choose(full, 3) {
		if sets.Size(s) != 3 || s <= last {
			t.Fatalf("Choose(all, 3): %x behind %x", s, last)
		}
		count, last = count+1, s
	}
	if count != 64*63*62/6 {
		t.Errorf("Choose(all, 3) goes through %d", count)
	}
}
