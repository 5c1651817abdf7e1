package state_test

import (
	"math"
	"slices"
	"testing"

	"weir/api"
	"weir/state"
)

// three is what Union, Meet and Minus say.
func three(t *testing.T, a, b []api.Final) (union, meet, minus []api.Final) {
	t.Helper()
	union, e := state.Union(a, b)
	mustOK(t, e)
	meet, e = state.Meet(a, b)
	mustOK(t, e)
	minus, e = state.Minus(a, b)
	mustOK(t, e)
	return union, meet, minus
}

// checkThree holds them against each member of either by itself.
func checkThree(t *testing.T, a, b []api.Final) {
	t.Helper()
	union, meet, minus := three(t, a, b)
	var both, alone []api.Final
	for _, f := range a {
		if has(b, f) {
			both = append(both, f)
		} else {
			alone = append(alone, f)
		}
	}
	either := saysSort(append(slices.Clone(a), b...))
	if !same(union, either) || !same(meet, saysSort(both)) || !same(minus, saysSort(alone)) {
		t.Fatalf("of %s and %s: Union %s, Meet %s, Minus %s", short(a...), short(b...), short(union...), short(meet...), short(minus...))
	}
	if len(union)+len(meet) != len(a)+len(b) || len(minus)+len(meet) != len(a) {
		t.Fatalf("of %s and %s: lengths %d %d %d", short(a...), short(b...), len(union), len(meet), len(minus))
	}
}

// 10.3, 10.9: any two sets of six final states.
func TestThree(t *testing.T) {
	all := subsets([]api.Final{of(), of(-1), of(1), of(0, 5), of(1, 4), odd(48, 47, -1)})
	for _, a := range all {
		for _, b := range all {
			checkThree(t, a, b)
		}
	}
}

// 10.3, 10.9: unruly sets, some of them much longer than the other.
func TestThreeLong(t *testing.T) {
	roll := dice(103)
	for i := range 300 {
		checkThree(t, saysSort(someList(roll, 3+i%60)), saysSort(someList(roll, 3+i%7*10)))
	}
}

// 10.3: one or both are no sets.
func TestThreeOfNoSets(t *testing.T) {
	calls := []func(a, b []api.Final) ([]api.Final, api.Errno){state.Union, state.Meet, state.Minus}
	var rows [][]api.Final
	lists(few(), 2, func(l []api.Final) { rows = append(rows, l) })
	rows = append(rows, []api.Final{of(1), of(2), of(2)}, []api.Final{of(1), of(2), of(0)}, []api.Final{of(1), of(2), {N: 50}})
	for _, a := range rows {
		for _, b := range rows {
			if saysRises(a) && saysRises(b) {
				checkThree(t, a, b)
				continue
			}
			for i, call := range calls {
				if l, e := call(a, b); e != api.ErrSet || len(l) != 0 {
					t.Fatalf("call %d of %s and %s: %s, %d", i, short(a...), short(b...), short(l...), e)
				}
			}
		}
	}
}

// 10.4: the chapter's example 2.
func TestExampleProject(t *testing.T) {
	l := []api.Final{of(1, 2, 3), of(4, 2, 3)}
	if p, e := state.Project(l, []int{2, 1}); e != api.OK || !same(p, []api.Final{of(3, 2)}) {
		t.Errorf("Project with 2, 1: %s, %d", short(p...), e)
	}
	if p, e := state.Project(l, []int{3}); e != api.ErrRange || len(p) != 0 {
		t.Errorf("Project with 3: %s, %d", short(p...), e)
	}
	if p, e := state.Project(nil, []int{3}); e != api.OK || len(p) != 0 {
		t.Errorf("Project of nothing with 3: %s, %d", short(p...), e)
	}
}

func checkProject(t *testing.T, l []api.Final, keep []int) {
	t.Helper()
	p, e := state.Project(l, keep)
	want, err := saysProject(l, keep)
	if e != err || !same(p, want) {
		t.Fatalf("Project(%s, %v): %s, %d; want %s, %d", short(l...), keep, short(p...), e, short(want...), err)
	}
	if e == api.OK && (len(p) > len(l) || !state.Rises(p)) {
		t.Fatalf("Project(%s, %v) has %d members", short(l...), keep, len(p))
	}
}

// 10.4, 10.11: sets of some final states with unlike N, and lists that are none, with all short lists of numbers.
func TestProject(t *testing.T) {
	rows := subsets([]api.Final{of(), of(3), of(1, 2), of(2, 2), of(2, 1, 0), of(1, 2, 0)})
	rows = append(rows, []api.Final{of(2, 2), of(1, 2)}, []api.Final{of(1), of(1)}, []api.Final{odd(2, 2, 1)}, []api.Final{{N: -1}}, []api.Final{of(1), {N: 49}})
	lists([]int{math.MinInt, -1, 0, 1, 2, 3, 48, math.MaxInt}, 3, func(keep []int) {
		for _, l := range rows {
			checkProject(t, l, keep)
		}
	})
}

// 10.4: as many numbers as there may be, and one more: errors stand in their order.
func TestProjectBounds(t *testing.T) {
	wide := of(numbers64(48)...)
	sets := [][]api.Final{nil, {of()}, {of(7)}, {wide}, {of(7), wide}, {of(7), of(7)}, {{N: 49}}}
	for _, n := range []int{0, 1, 47, 48, 49, 50, 1000} {
		for _, k := range []int{-1, 0, 1, 47, 48} {
			keep := slices.Repeat([]int{k}, n)
			for _, l := range sets {
				checkProject(t, l, keep)
				checkProject(t, l, append(make([]int, 3), keep...))
			}
		}
	}
	back := numbers(48)
	slices.Reverse(back)
	checkProject(t, []api.Final{wide}, back)
	if p, e := state.Project([]api.Final{wide}, make([]int, 49)); e != api.ErrLong || len(p) != 0 {
		t.Errorf("Project with 49 numbers: %d", e)
	}
	if p, e := state.Project([]api.Final{of(7), of(7)}, make([]int, 49)); e != api.ErrSet || len(p) != 0 {
		t.Errorf("Project of no set with 49 numbers: %d", e)
	}
	if p, e := state.Project([]api.Final{of(7)}, append(make([]int, 48), 5)); e != api.ErrLong || len(p) != 0 {
		t.Errorf("Project with 49 numbers, one out of range: %d", e)
	}
}

func numbers64(n int) []int64 {
	l := make([]int64, n)
	for i := range l {
		l[i] = int64(i*i - 100)
	}
	return l
}

// someSet is a set of final states of n values, few of which differ.
func someSet(roll func(int) int, n int) []api.Final {
	l := make([]api.Final, roll(30))
	for i := range l {
		l[i].N = n
		for k := range n {
			l[i].V[k] = int64(roll(3) - 1)
		}
	}
	return saysSort(l)
}

// someKeep is some numbers of n values.
func someKeep(roll func(int) int, n int) []int {
	if n == 0 {
		return nil
	}
	keep := make([]int, roll(min(2*n, 48)+1))
	for i := range keep {
		keep[i] = roll(n)
	}
	return keep
}

// 10.4, 10.11: unruly sets: all numbers in their order change nothing, and twice is once by the numbers put together.
func TestProjectTwice(t *testing.T) {
	roll := dice(104)
	for range 1000 {
		n := []int{0, 1, 2, 3, 5, 24, 47, 48}[roll(8)]
		l := someSet(roll, n)
		if p, e := state.Project(l, numbers(n)); e != api.OK || !same(p, l) {
			t.Fatalf("Project(%s, all numbers): %s, %d", short(l...), short(p...), e)
		}
		first := someKeep(roll, n)
		second := someKeep(roll, len(first))
		checkProject(t, l, first)
		var both []int
		for _, k := range second {
			both = append(both, first[k])
		}
		p, e := state.Project(l, first)
		mustOK(t, e)
		twice, e := state.Project(p, second)
		mustOK(t, e)
		once, e := state.Project(l, both)
		mustOK(t, e)
		if !same(twice, once) {
			t.Fatalf("Project(%s) by %v and %v: %s; by %v: %s", short(l...), first, second, short(twice...), both, short(once...))
		}
	}
}

// 10.2, 10.3, 10.4: many final states, so that nothing asks each about each.
func TestMany(t *testing.T) {
	const n = 100000
	l := make([]api.Final, n)
	for i := range l {
		l[i] = of(int64(i*7919%n), int64(i%10))
	}
	set := state.Sort(append(l, l[:10]...))
	if len(set) != n || !state.Rises(set) {
		t.Fatalf("Sort of many: %d", len(set))
	}
	for i := 0; i < n; i += 997 {
		if k, ok := state.Find(set, set[i]); k != i || !ok {
			t.Errorf("Find among many: %d %v; want %d", k, ok, i)
		}
	}
	union, meet, minus := three(t, set, set[n/2:])
	if len(union) != n || len(meet) != n/2 || len(minus) != n/2 {
		t.Errorf("of many: %d %d %d", len(union), len(meet), len(minus))
	}
	if p, e := state.Project(set, []int{1}); e != api.OK || len(p) != 10 {
		t.Errorf("Project of many: %d, %d", len(p), e)
	}
}
