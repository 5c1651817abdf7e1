package cand

import (
	"iter"

	"weir/odo"
)

// choices goes through the choices of reads that have values. It hands out its finder, in which the next choice takes the place of the last one.
func (l layout) choices() iter.Seq[*finder] {
	return func(yield func(*finder) bool) {
		newFinder(l).choose(l.reads(), yield)
	}
}

// choose goes through the choices for some reads, the others being chosen; false: yield has had enough. A choice that is wrong already is left at once, with all that it would lead to.
func (f *finder) choose(reads []int, yield func(*finder) bool) bool {
	if !f.look() {
		return true
	}
	if len(reads) == 0 {
		return yield(f)
	}
	r := reads[0]
	for _, w := range f.writes[f.events[r].Loc] {
		f.from[r] = w
		if !f.choose(reads[1:], yield) {
			return false
		}
	}
	f.from[r] = -1
	return true
}

// orders goes through the orders of writes.
func orders(writes [][]int) iter.Seq[[][]int] {
	return func(yield func([][]int) bool) {
		arrange(writes, nil, yield)
	}
}

// arrange goes through the orders of writes that begin with those of some locations; false: yield has had enough.
func arrange(writes, ahead [][]int, yield func([][]int) bool) bool {
	if len(ahead) == len(writes) {
		return yield(clones(ahead))
	}
	for l := range ordersOf(writes[len(ahead)]) {
		if !arrange(writes, append(ahead, l), yield) {
			return false
		}
	}
	return true
}

// ordersOf goes through the orders of the writes to one location.
func ordersOf(writes []int) iter.Seq[[]int] {
	return func(yield func([]int) bool) {
		s, _ := odo.Orders(len(writes) - 1) // the initial write stays first
		for places := range s.All() {
			l := []int{writes[0]}
			for _, i := range places {
				l = append(l, writes[1+i])
			}
			if !yield(l) {
				return
			}
		}
	}
}
