package odo

import "slices"

// weaves is how often each number stands in a list.
type weaves []int

func (w weaves) size() (uint64, bool) {
	count, all := uint64(1), 0
	for _, length := range w {
		for k := range length {
			// One number more, of which there are k: each step answers a whole number, and none less than it had.
			all++
			var ok bool
			if count, ok = scale(count, all, k+1); !ok {
				return 0, false
			}
		}
	}
	return count, true
}

func (w weaves) first() ([]int, bool) {
	var l []int
	for i, length := range w {
		l = append(l, slices.Repeat([]int{i}, length)...)
	}
	return l, true
}

func (w weaves) next(l []int) bool { return turn(l) }

func (w weaves) has(l []int) bool {
	first, _ := w.first()
	return mixed(l, first)
}

func (w weaves) at(n uint64) []int {
	count, _ := w.size()
	rest := slices.Clone(w)
	l, _ := w.first()
	for p := range l {
		i, begin := 0, share(count, rest[0], len(l)-p)
		for n >= begin {
			n -= begin
			i++
			begin = share(count, rest[i], len(l)-p)
		}
		count = begin
		rest[i]--
		l[p] = i
	}
	return l
}

func (w weaves) rank(l []int) uint64 {
	count, _ := w.size()
	rest := slices.Clone(w)
	n := uint64(0)
	for p, x := range l {
		for _, often := range rest[:x] {
			n += share(count, often, len(l)-p)
		}
		count = share(count, rest[x], len(l)-p)
		rest[x]--
	}
	return n
}

// share is how many of count weaves of all numbers begin with one that stands so often in each.
func share(count uint64, often, all int) uint64 {
	n, _ := scale(count, often, all)
	return n
}
