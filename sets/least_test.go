package sets_test

import (
	"slices"
	"testing"

	"weir/api"
	"weir/sets"
)

// step is what a walk through least sets does next: it asks of a set, or it goes through it.
type step struct {
	set  api.Set
	goes bool
}

// wantSteps are the steps that 1.4 says, found by trying every set within s by size and number.
func wantSteps(s api.Set, test func(api.Set) bool) []step {
	all := within(s)
	slices.SortStableFunc(all, func(a, b api.Set) int { return len(members(a)) - len(members(b)) })
	var steps []step
	var found []api.Set
	for _, t := range all {
		if slices.ContainsFunc(found, func(f api.Set) bool { return inside(f, t) }) {
			continue
		}
		steps = append(steps, step{t, false})
		if test(t) {
			found = append(found, t)
			steps = append(steps, step{t, true})
		}
	}
	return steps
}

// gotSteps are the steps of the call itself, of which the loop is left after so many sets (-1: at the end).
func gotSteps(s api.Set, test func(api.Set) bool, leave int) []step {
	var steps []step
	all := sets.Least(s, func(t api.Set) bool {
		steps = append(steps, step{t, false})
		return test(t)
	})
	for t := range all {
		steps = append(steps, step{t, true})
		leave--
		if leave == 0 {
			break
		}
	}
	return steps
}

// makers make tests anew, because some of them keep count.
func makers() map[string]func() func(api.Set) bool {
	plain := func(test func(api.Set) bool) func() func(api.Set) bool {
		return func() func(api.Set) bool { return test }
	}
	return map[string]func() func(api.Set) bool{
		"never":        plain(func(api.Set) bool { return false }),
		"always":       plain(func(api.Set) bool { return true }),
		"not empty":    plain(func(t api.Set) bool { return t != 0 }),
		"two or more":  plain(func(t api.Set) bool { return sets.Size(t) >= 2 }),
		"just three":   plain(func(t api.Set) bool { return sets.Size(t) == 3 }),
		"an end":       plain(func(t api.Set) bool { return sets.Has(t, 0) || sets.Has(t, 63) }),
		"0, or 1 2":    plain(func(t api.Set) bool { return sets.Has(t, 0) || inside(6, t) }),
		"some":         plain(func(t api.Set) bool { return uint64(t)*0x9e3779b97f4a7c15>>60 == 3 }),
		"many":         plain(func(t api.Set) bool { return t != 0 && uint64(t)*0xd1342543de82ef95>>62 == 1 }),
		"odd together": plain(func(t api.Set) bool { return sets.Size(t)%2 == 1 && sets.Size(t) > 2 }),
		"each fifth": func() func(api.Set) bool {
			n := 0
			return func(api.Set) bool { n++; return n%5 == 0 }
		},
		"by the last one asked": func() func(api.Set) bool {
			last := api.Set(0)
			return func(t api.Set) bool {
				pass := t&last == 0 && sets.Size(last) > 1
				last = t
				return pass
			}
		},
	}
}

func TestLeast(t *testing.T) {
	for name, made := range makers() {
		for _, s := range small() {
			want := wantSteps(s, made())
			if got := gotSteps(s, made(), -1); !slices.Equal(got, want) {
				t.Errorf("Least(%s, %s): %v; want %v", sets.Text(s), name, got, want)
			}
		}
	}
}

// TestLeastIsAskedAsFarAsItGoes: a loop that is left has asked of nothing behind the set at which it was left.
func TestLeastIsAskedAsFarAsItGoes(t *testing.T) {
	for name, made := range makers() {
		for _, s := range small() {
			want := wantSteps(s, made())
			went := 0
			for i, w := range want {
				if !w.goes {
					continue
				}
				went++
				if got := gotSteps(s, made(), went); !slices.Equal(got, want[:i+1]) {
					t.Errorf("Least(%s, %s), left after %d: %v", sets.Text(s), name, went, got)
				}
			}
		}
	}
}

func TestLeastWalks(t *testing.T) {
	some := func(t api.Set) bool { return sets.Size(t) >= 3 || sets.Has(t, 4) || inside(3, t) }
	for _, s := range small() {
		var want []api.Set
		for _, w := range wantSteps(s, some) {
			if w.goes {
				want = append(want, w.set)
			}
		}
		checkWalk(t, "Least("+sets.Text(s)+")", sets.Least(s, some), want)
	}
}

// TestLeastIsAskedAnew: nothing is asked ahead of the loop, and each loop asks again.
func TestLeastIsAskedAnew(t *testing.T) {
	asked, bound := 0, 1
	all := sets.Least(0xf, func(t api.Set) bool {
		asked++
		return sets.Size(t) >= bound
	})
	if asked != 0 {
		t.Errorf("%d asked ahead of the loop", asked)
	}
	if l := slices.Collect(all); !slices.Equal(l, []api.Set{1, 2, 4, 8}) || asked != 5 {
		t.Errorf("first loop: %v, asked %d", l, asked)
	}
	asked, bound = 0, 4
	if l := slices.Collect(all); !slices.Equal(l, []api.Set{15}) || asked != 16 {
		t.Errorf("second loop: %v, asked %d", l, asked)
	}
}

// TestLeastFollows holds what 1.6 says of tests that hang on their argument alone.
func TestLeastFollows(t *testing.T) {
	for _, name := range []string{"never", "always", "just three", "an end", "some", "many", "odd together"} {
		test := makers()[name]()
		for _, s := range small() {
			l := slices.Collect(sets.Least(s, test))
			for i, a := range l {
				for k, b := range l {
					if i != k && inside(a, b) {
						t.Errorf("%s: %x is within %x", name, a, b)
					}
				}
			}
			for _, w := range within(s) {
				if test(w) && !slices.ContainsFunc(l, func(f api.Set) bool { return inside(f, w) }) {
					t.Errorf("%s: %x has none within it", name, w)
				}
			}
		}
	}
}

// TestLeastOfTheFullSet ends only if sets that hold a found one are passed over in heaps, not one by one.
func TestLeastOfTheFullSet(t *testing.T) {
	for _, c := range []struct {
		name         string
		test         func(api.Set) bool
		found, asked int
	}{
		{"always", func(api.Set) bool { return true }, 1, 1},
		{"not empty", func(t api.Set) bool { return t != 0 }, 64, 65},
		{"two", func(t api.Set) bool { return sets.Size(t) == 2 }, 2016, 1 + 64 + 2016},
		{"one of 54, or two next to each other", func(t api.Set) bool { return t>>10 != 0 || t&(t<<1) != 0 }, 54 + 9, 1 + 64 + 45 + 56 + 35 + 6},
	} {
		asked := 0
		found := 0
		for range sets.Least(full, func(t api.Set) bool { asked++; return c.test(t) }) {
			found++
		}
		if found != c.found || asked != c.asked {
			t.Errorf("%s: %d found, %d asked; want %d, %d", c.name, found, asked, c.found, c.asked)
		}
	}
	n := 0
	for range sets.Least(full, func(t api.Set) bool { return sets.Size(t) >= 3 }) {
		n++
		if n == 1000 {
			break
		}
	}
	if n != 1000 {
		t.Errorf("left after %d", n)
	}
}
