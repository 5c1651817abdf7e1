package rel

import (
	"iter"
	"slices"

	"weir/api"
)

// Extend is the least order in which all pairs go forward.
func Extend(r api.Rel) ([]int, bool) {
	for l := range Extends(r) {
		return l, true
	}
	return nil, false
}

// Extends goes through all orders in which all pairs go forward.
func Extends(r api.Rel) iter.Seq[[]int] {
	r = right(r)
	return func(yield func([]int) bool) {
		// Of a cycle the laying would learn at its last numbers alone, after all orders of the others.
		if Acyclic(r) {
			into := Inverse(r)
			lay(&into, all(r.N), nil, yield)
		}
	}
}

// Reduce is the pairs that no way of several steps stands for.
func Reduce(r api.Rel) (api.Rel, bool) {
	if !Acyclic(r) {
		return api.Rel{}, false
	}
	return Minus(r, Compose(r, Plus(r))), true
}

// lay goes through the orders that are laid and the numbers of rest behind it, until yield stops it; it tells whether it came to the end.
// into is the inverse of the relation: a number can be laid when none that stands to it is left.
func lay(into *api.Rel, rest uint64, laid []int, yield func([]int) bool) bool {
	if rest == 0 {
		return yield(slices.Clone(laid))
	}
	for a := range each(rest) {
		if into.Rows[a]&rest == 0 && !lay(into, rest&^(1<<a), append(laid, a), yield) {
			return false
		}
	}
	return true
}
