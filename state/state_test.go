package state_test

import (
	"slices"
	"strings"
	"testing"

	"weir/api"
	"weir/state"
)

// 10.1, 10.2: the chapter's example 1.
func TestExampleOrder(t *testing.T) {
	f := of(1, 2)
	for _, behind := range []api.Final{of(1, 3), of(2, 0)} {
		if state.Compare(f, behind) != -1 || state.Compare(behind, f) != 1 {
			t.Errorf("(1 2) is not ahead of %s", short(behind))
		}
	}
	for _, first := range []api.Final{of(5), of(1, -1)} {
		if state.Compare(f, first) != 1 || state.Compare(first, f) != -1 {
			t.Errorf("(1 2) is not behind %s", short(first))
		}
	}
	if l := state.Sort([]api.Final{of(1, 2), of(0, 9), of(1, 2)}); !same(l, []api.Final{of(0, 9), of(1, 2)}) {
		t.Errorf("Sort: %s", short(l...))
	}
}

// 10.1
func TestCheck(t *testing.T) {
	for _, f := range strangers() {
		want := api.ErrRange
		if isRight(f) {
			want = api.OK
		}
		if e := state.Check(f); e != want {
			t.Errorf("Check(%s): %d; want %d", short(f), e, want)
		}
	}
	for n := -3; n <= 51; n++ {
		for at := range api.MaxFinal {
			want := api.OK
			if n < 0 || n > 48 || at >= n {
				want = api.ErrRange
			}
			if e := state.Check(odd(n, at, 1)); e != want {
				t.Errorf("Check, N %d, with a value at %d: %d; want %d", n, at, e, want)
			}
		}
	}
}

// 10.1, 10.8: Compare is the order of the keys, of any two, whether they are right or not; so it is total.
func TestCompare(t *testing.T) {
	l := strangers()
	for _, a := range l {
		for _, b := range l {
			if n, want := state.Compare(a, b), strings.Compare(key(a), key(b)); n != want {
				t.Fatalf("Compare(%s, %s): %d; want %d", short(a), short(b), n, want)
			}
		}
	}
	roll := dice(101)
	for range 20000 {
		a := some(roll)
		b := a
		if roll(2) == 0 {
			b = some(roll)
		} else {
			b.V[roll(api.MaxFinal)] = values()[roll(len(values()))]
		}
		if n, want := state.Compare(a, b), strings.Compare(key(a), key(b)); n != want {
			t.Fatalf("Compare(%s, %s): %d; want %d", short(a), short(b), n, want)
		}
	}
}

// 10.8: of any three, one ahead of another one ahead of the third is ahead of that; unlike ones are never the same.
func TestOrderIsTotal(t *testing.T) {
	l := strangers()[:60]
	l = append(l, api.Final{N: -1}, api.Final{N: 49}, odd(1, 47, -1), odd(1, 47, 1))
	for _, a := range l {
		for _, b := range l {
			n := state.Compare(a, b)
			if n != -state.Compare(b, a) || (n == 0) != (a == b) {
				t.Fatalf("Compare of %s and %s both ways", short(a), short(b))
			}
			for _, c := range l {
				if n <= 0 && state.Compare(b, c) <= 0 && state.Compare(a, c) > 0 {
					t.Fatalf("Compare of %s, %s, %s goes round", short(a), short(b), short(c))
				}
			}
		}
	}
}

// few is final states of which lists are made: right ones in their order, and two that are wrong.
func few() []api.Final {
	return []api.Final{of(), of(-1), of(0), of(0, 0), odd(48, 47, 1), odd(1, 1, 1), {N: 49}}
}

// 10.2, 10.8: Sort and Rises of all short lists.
func TestSortAndRises(t *testing.T) {
	lists(few(), 5, func(l []api.Final) {
		want := saysSort(l)
		if got := state.Sort(l); !same(got, want) {
			t.Fatalf("Sort(%s): %s; want %s", short(l...), short(got...), short(want...))
		}
		if got := state.Rises(l); got != saysRises(l) {
			t.Fatalf("Rises(%s): %v", short(l...), got)
		}
	})
}

// 10.2, 10.8: Sort and Rises of unruly lists, and of what Sort answers.
func TestSortLong(t *testing.T) {
	roll := dice(102)
	for range 300 {
		l := someList(roll, 60)
		want, got := saysSort(l), state.Sort(l)
		if !same(got, want) {
			t.Fatalf("Sort(%s): %s; want %s", short(l...), short(got...), short(want...))
		}
		if !state.Rises(got) || !same(state.Sort(got), got) {
			t.Fatalf("Sort of a set, or Rises of it: %s", short(got...))
		}
		if state.Rises(l) != saysRises(l) {
			t.Fatalf("Rises(%s): %v", short(l...), state.Rises(l))
		}
		twice := append(slices.Clone(l), l...)
		slices.Reverse(twice)
		if !same(state.Sort(twice), want) {
			t.Fatalf("Sort sees the order of %s, or how often they come", short(l...))
		}
	}
}

// 10.2: sets of which one member is changed, or two have changed places.
func TestRisesTwisted(t *testing.T) {
	set := saysSort(strangers())
	if !state.Rises(set) || !state.Rises(nil) || !state.Rises([]api.Final{}) {
		t.Error("Rises of sets")
	}
	for i := range set {
		wrong := slices.Clone(set)
		wrong[i].N = 49
		again := slices.Insert(slices.Clone(set), i, set[i])
		if state.Rises(wrong) || state.Rises(again) {
			t.Errorf("Rises of a set with a wrong or doubled member %d", i)
		}
		if i > 0 {
			turned := slices.Clone(set)
			turned[i-1], turned[i] = turned[i], turned[i-1]
			if state.Rises(turned) {
				t.Errorf("Rises of a set with the members %d and %d turned", i-1, i)
			}
		}
		for _, k := range []int{0, 1, 2, 24, 46, 47} {
			high := slices.Clone(set[max(0, i-5):min(len(set), i+5)])
			high[min(i, 5)].V[k] += 1 << 62
			if state.Rises(high) != saysRises(high) {
				t.Errorf("Rises of a set with another value %d of its member %d: %v", k, i, state.Rises(high))
			}
		}
	}
}

// saysFind is what 10.2 says of a set.
func saysFind(l []api.Final, f api.Final) (int, bool) {
	n := 0
	for _, g := range l {
		if key(g) < key(f) {
			n++
		}
	}
	return n, has(l, f)
}

// 10.2: Find in sets of all lengths up to some 30, of right and wrong final states.
func TestFind(t *testing.T) {
	all := saysSort(strangers())
	for n := range 30 {
		for _, l := range [][]api.Final{all[:n], all[len(all)-n:], all[20 : 20+n]} {
			for _, f := range strangers() {
				k, ok := state.Find(l, f)
				if want, there := saysFind(l, f); k != want || ok != there {
					t.Fatalf("Find(%s, %s): %d %v; want %d %v", short(l...), short(f), k, ok, want, there)
				}
			}
		}
	}
	if k, ok := state.Find(nil, of()); k != 0 || ok {
		t.Errorf("Find in nothing: %d %v", k, ok)
	}
}

// 10.2: of a list that is no set the number is one of its, and the answer is about that member alone.
func TestFindInNoSet(t *testing.T) {
	lists(few(), 4, func(l []api.Final) {
		for _, f := range few() {
			k, ok := state.Find(l, f)
			if saysRises(l) {
				if want, there := saysFind(l, f); k != want || ok != there {
					t.Fatalf("Find(%s, %s): %d %v; want %d %v", short(l...), short(f), k, ok, want, there)
				}
			}
			if k < 0 || k > len(l) || ok != (k < len(l) && l[k] == f) {
				t.Fatalf("Find(%s, %s): %d %v", short(l...), short(f), k, ok)
			}
		}
	})
}

// 10.7, R4: lists are not changed, in their spare room neither.
func TestListsStay(t *testing.T) {
	loose := spare([]api.Final{of(2), of(1), {N: 49}, of(1)}, of(77))
	set := spare(saysSort(loose), of(77))
	other := spare([]api.Final{of(2), of(3)}, of(78))
	keep := spare([]int{0}, 77)
	names := spare([]api.Ref{{Thread: -1, Name: "x"}}, api.Ref{Name: "spare"})
	before := []string{wholeOf(loose), wholeOf(set), wholeOf(other), wholeOf(keep), wholeOf(names)}
	for _, l := range [][]api.Final{loose, set} {
		state.Sort(l)
		state.Rises(l)
		state.Find(l, of(2))
		state.Union(l, other)
		state.Meet(l, other)
		state.Minus(l, other)
		state.Union(other, l)
		state.Meet(other, l)
		state.Minus(other, l)
		state.Project(l, keep)
	}
	state.Text(of(1), names)
	if after := []string{wholeOf(loose), wholeOf(set), wholeOf(other), wholeOf(keep), wholeOf(names)}; !slices.Equal(after, before) {
		t.Errorf("lists are changed: %s; were %s", after, before)
	}
}

// 10.7, R4: answers share no memory with what was handed in, nor with one another.
func TestAnswersApart(t *testing.T) {
	a, b := spare([]api.Final{of(1), of(2), of(3)}, of(9)), spare([]api.Final{of(4)}, of(9))
	var none []api.Final
	calls := []func() []api.Final{
		func() []api.Final { return state.Sort(a) },
		func() []api.Final { l, _ := state.Union(a, none); return l },
		func() []api.Final { l, _ := state.Union(none, a); return l },
		func() []api.Final { l, _ := state.Union(a, b); return l },
		func() []api.Final { l, _ := state.Union(a, a); return l },
		func() []api.Final { l, _ := state.Meet(a, a); return l },
		func() []api.Final { l, _ := state.Minus(a, none); return l },
		func() []api.Final { l, _ := state.Minus(a, b); return l },
		func() []api.Final { l, _ := state.Project(a, []int{0}); return l },
		func() []api.Final { l, _ := state.Project(a, nil); return l },
	}
	given := wholeOf(a) + wholeOf(b)
	for i, call := range calls {
		first, second := call(), call()
		want := wholeOf(second)
		for k := range first[:cap(first)] {
			first[:cap(first)][k] = of(-77)
		}
		if wholeOf(a)+wholeOf(b) != given || wholeOf(second) != want {
			t.Errorf("the answer of call %d shares memory", i)
		}
	}
}
