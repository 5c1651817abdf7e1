// Package sets is layer 1: sets of numbers from 0 to 63 in one word (see shared/doc/01-sets.md).
package sets

import (
	"iter"
	"math/bits"
	"strconv"
	"strings"

	"weir/api"
)

// Of is the set of some numbers.
func Of(l []int) (api.Set, api.Errno) {
	var s api.Set
	for _, i := range l {
		if !fits(i) {
			return 0, api.ErrRange
		}
		s = With(s, i)
	}
	return s, api.OK
}

// Below is the set of the numbers below n.
func Below(n int) api.Set {
	switch {
	case n < 1:
		return 0
	case n >= api.MaxElems:
		return ^api.Set(0)
	}
	return 1<<n - 1
}

// Has tells whether a number is in a set.
func Has(s api.Set, i int) bool { return s&one(i) != 0 }

// With is a set and one number more.
func With(s api.Set, i int) api.Set { return s | one(i) }

// Without is a set without a number.
func Without(s api.Set, i int) api.Set { return s &^ one(i) }

// Size is how many numbers are in a set.
func Size(s api.Set) int { return bits.OnesCount64(uint64(s)) }

// List is a set's numbers.
func List(s api.Set) []int {
	l := make([]int, 0, Size(s))
	for i := range Each(s) {
		l = append(l, i)
	}
	return l
}

// Next is the least number of a set that is not below i.
func Next(s api.Set, i int) int {
	s &^= Below(i)
	if s == 0 {
		return -1
	}
	return lowest(s)
}

// At is the number of a set that has k others below it.
func At(s api.Set, k int) int {
	if k < 0 || k >= Size(s) {
		return -1
	}
	for range k {
		s &= s - 1
	}
	return lowest(s)
}

// Rank is how many numbers of a set are below i.
func Rank(s api.Set, i int) int { return Size(s & Below(i)) }

// Each goes through a set's numbers.
func Each(s api.Set) iter.Seq[int] {
	return func(yield func(int) bool) {
		for rest := s; rest != 0; rest &= rest - 1 {
			if !yield(lowest(rest)) {
				return
			}
		}
	}
}

// Subsets goes through the sets within a set.
func Subsets(s api.Set) iter.Seq[api.Set] {
	return func(yield func(api.Set) bool) {
		var t api.Set
		for yield(t) && t != s {
			// The borrow runs through the bits outside s, so this counts up by one over the bits of s alone.
			t = (t - s) & s
		}
	}
}

// Choose goes through the sets of k numbers within a set.
func Choose(s api.Set, k int) iter.Seq[api.Set] {
	return func(yield func(api.Set) bool) {
		if k >= 0 {
			grow(0, s, k, func(api.Set) bool { return true }, yield)
		}
	}
}

// Least goes through the least sets within a set that a test lets pass.
func Least(s api.Set, test func(api.Set) bool) iter.Seq[api.Set] {
	return func(yield func(api.Set) bool) {
		var found [api.MaxElems][]api.Set // by lowest number, because a growing set's lowest number is its newest
		enter := func(t api.Set) bool { return !holdsOne(t, found[lowest(t)]) }
		for k := range Size(s) + 1 {
			failed := false
			var fresh []api.Set // apart from found till the round ends: no set of this size is within another
			ask := func(t api.Set) bool {
				if !test(t) {
					failed = true
					return true
				}
				fresh = append(fresh, t)
				return yield(t)
			}
			// All parts of a greater set that is still to be asked have failed: if none of this size has, there is no such set, and going on would pass over up to 2^64 of them in vain.
			if !grow(0, s, k, enter, ask) || !failed {
				return
			}
			for _, t := range fresh {
				found[lowest(t)] = append(found[lowest(t)], t)
			}
		}
	}
}

// Text is a set's text.
func Text(s api.Set) string {
	var words []string
	for i := range Each(s) {
		words = append(words, strconv.Itoa(i))
	}
	return "{" + strings.Join(words, " ") + "}"
}

// grow goes through the sets that are t and k numbers of s more, rising, until yield stops it; it tells whether it came to the end.
// The numbers of s lie below those of t, and the highest number is settled first: that makes the sets rise. A part that enter refuses is passed over with all that would grow from it.
func grow(t, s api.Set, k int, enter, yield func(api.Set) bool) bool {
	if k == 0 {
		return yield(t)
	}
	for i := At(s, k-1); i >= 0; i = Next(s, i+1) {
		more := With(t, i)
		if enter(more) && !grow(more, s&Below(i), k-1, enter, yield) {
			return false
		}
	}
	return true
}

// holdsOne tells whether one of the sets l is within t.
func holdsOne(t api.Set, l []api.Set) bool {
	for _, f := range l {
		if f&^t == 0 {
			return true
		}
	}
	return false
}

// fits tells whether a number can be in a set.
func fits(i int) bool { return 0 <= i && i < api.MaxElems }

// one is the set of one number; it is empty if the number can't be in a set.
func one(i int) api.Set {
	if !fits(i) {
		return 0
	}
	return 1 << i
}

// lowest is the lowest number of a set that is not empty.
func lowest(s api.Set) int { return bits.TrailingZeros64(uint64(s)) }
