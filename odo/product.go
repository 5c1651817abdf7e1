package odo

import "slices"

// product is the sizes of a product: its lists are the numbers of a counter whose wheels have these sizes.
type product []int

func (p product) size() (uint64, bool) {
	// Looked for first: with a size 0 there are no lists, however many the other sizes make.
	if slices.Contains(p, 0) {
		return 0, true
	}
	count := uint64(1)
	for _, n := range p {
		var ok bool
		if count, ok = scale(count, n, 1); !ok {
			return 0, false
		}
	}
	return count, true
}

func (p product) first() ([]int, bool) {
	return make([]int, len(p)), !slices.Contains(p, 0)
}

func (p product) next(l []int) bool {
	for i, n := range slices.Backward(p) {
		if l[i]++; l[i] < n {
			return true
		}
		l[i] = 0
	}
	return false
}

func (p product) has(l []int) bool {
	if len(l) != len(p) {
		return false
	}
	for i, n := range p {
		if l[i] < 0 || l[i] >= n {
			return false
		}
	}
	return true
}

func (p product) at(n uint64) []int {
	l := make([]int, len(p))
	for i, size := range slices.Backward(p) {
		l[i] = int(n % uint64(size))
		n /= uint64(size)
	}
	return l
}

func (p product) rank(l []int) uint64 {
	n := uint64(0)
	for i, size := range p {
		n = n*uint64(size) + uint64(l[i])
	}
	return n
}
