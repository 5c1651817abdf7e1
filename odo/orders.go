package odo

import "slices"

// orders is of how many numbers all orders are the space.
type orders int

func (o orders) size() (uint64, bool) {
	count := uint64(1)
	for i := range int(o) {
		var ok bool
		if count, ok = scale(count, i+1, 1); !ok {
			return 0, false
		}
	}
	return count, true
}

func (o orders) first() ([]int, bool) { return o.rising(), true }

func (o orders) next(l []int) bool { return turn(l) }

func (o orders) has(l []int) bool { return mixed(l, o.rising()) }

func (o orders) at(n uint64) []int {
	each, _ := o.size()
	rest := o.rising()
	l := make([]int, 0, len(rest))
	for len(rest) > 0 {
		each /= uint64(len(rest)) // as many lists go on with the one number as with the other
		k := int(n / each)
		n %= each
		l = append(l, rest[k])
		rest = slices.Delete(rest, k, k+1)
	}
	return l
}

func (o orders) rank(l []int) uint64 {
	each, _ := o.size()
	rest := o.rising()
	n := uint64(0)
	for _, x := range l {
		each /= uint64(len(rest))
		k := slices.Index(rest, x)
		n += uint64(k) * each
		rest = slices.Delete(rest, k, k+1)
	}
	return n
}

// rising is the numbers, the least first.
func (o orders) rising() []int {
	l := make([]int, o)
	for i := range l {
		l[i] = i
	}
	return l
}

// mixed tells whether a list has the numbers of another one, which rises, in whatever order.
func mixed(l, rising []int) bool {
	if len(l) != len(rising) {
		return false
	}
	sorted := slices.Clone(l)
	slices.Sort(sorted)
	return slices.Equal(sorted, rising)
}

// turn makes a list the one behind it, in the order of lists, among those with the same numbers; if there is none, it tells so.
func turn(l []int) bool {
	i := len(l) - 2
	for i >= 0 && l[i] >= l[i+1] {
		i--
	}
	if i < 0 {
		return false
	}
	k := len(l) - 1
	for l[k] <= l[i] {
		k--
	}
	l[i], l[k] = l[k], l[i]
	slices.Reverse(l[i+1:]) // it falls, and must rise to be the least
	return true
}
