package cycle_test

import (
	"slices"
	"testing"

	"weir/api"
	"weir/cycle"
)

// dice is a row of numbers that look unruly and are the same at every run.
func dice(seed uint64) func(n int) int {
	return func(n int) int {
		seed += 0x9e3779b97f4a7c15
		z := (seed ^ seed>>30) * 0xbf58476d1ce4e5b9
		z = (z ^ z>>27) * 0x94d049bb133111eb
		return int((z ^ z>>31) % uint64(n))
	}
}

func pick[T any](roll func(int) int, l []T) T { return l[roll(len(l))] }

// lists goes through all lists of n names, in their order.
func lists(names []string, n int, yield func([]string)) {
	var on func(l []string)
	on = func(l []string) {
		if len(l) == n {
			yield(l)
			return
		}
		for _, s := range names {
			on(append(slices.Clone(l), s))
		}
	}
	on(nil)
}

// rounds goes through all lists of n names of which each one goes on as it must, in their order.
func rounds(names []string, n int, yield func([]string)) {
	var on func(l []string)
	on = func(l []string) {
		if len(l) == n {
			if misfit(l) < 0 {
				yield(l)
			}
			return
		}
		for _, s := range names {
			if len(l) == 0 || ends(l[len(l)-1])[1] == ends(s)[0] {
				on(append(slices.Clone(l), s))
			}
		}
	}
	on(nil)
}

// someNames is unruly names out of some, each once, in any order.
func someNames(roll func(int) int, names []string, n int) []string {
	l := slices.Clone(names)
	for i := range l {
		k := i + roll(len(l)-i)
		l[i], l[k] = l[k], l[i]
	}
	return l[:n]
}

// someCycle is an unruly cycle of n edges, at least 4, of which at most so many go out.
func someCycle(t *testing.T, roll func(int) int, n, outs int) []string {
	t.Helper()
	for range 1_000_000 {
		var l []string
		for len(l) < n {
			s := pick(roll, words(known))
			if len(l) > 0 && ends(l[len(l)-1])[1] != ends(s)[0] || goesOut(s) && count(l, goesOut) == outs {
				continue
			}
			l = append(l, s)
		}
		if _, e := checkOf(l); e == api.OK {
			return l
		}
	}
	t.Fatalf("no cycle of %d edges of which at most %d go out", n, outs)
	return nil
}

// testOf is the test of a cycle that no limit refuses.
func testOf(t *testing.T, l []string) api.Test {
	t.Helper()
	x, e := cycle.Test(l)
	if e != api.OK {
		t.Fatalf("Test(%v): %d", l, e)
	}
	return x
}

// all is the canonical forms of so many of some edges.
func all(t *testing.T, names []string, n int) [][]string {
	t.Helper()
	it, e := cycle.All(names, n)
	if e != api.OK || it == nil {
		t.Fatalf("All(%v, %d): %d", names, n, e)
	}
	return slices.Collect(it)
}
