package odo_test

import (
	"math"
	"math/big"
	"slices"
	"testing"

	"weir/api"
	"weir/odo"
)

// dice is a row of words that look unruly and are the same at every run.
func dice(seed uint64) func() uint64 {
	return func() uint64 {
		seed += 0x9e3779b97f4a7c15
		z := (seed ^ seed>>30) * 0xbf58476d1ce4e5b9
		z = (z ^ z>>27) * 0x94d049bb133111eb
		return z ^ z>>31
	}
}

func factorial(n int) *big.Int { return new(big.Int).MulRange(1, int64(n)) }

func productCount(sizes []int) *big.Int {
	count := big.NewInt(1)
	for _, n := range sizes {
		count.Mul(count, big.NewInt(int64(n)))
	}
	return count
}

func weavesCount(lengths []int) *big.Int {
	count := factorial(sum(lengths))
	for _, n := range lengths {
		count.Div(count, factorial(n))
	}
	return count
}

// checkLen holds Len against a count without bounds.
func checkLen(t *testing.T, what string, s *odo.Space, want *big.Int) {
	t.Helper()
	n, err := s.Len()
	switch {
	case want.BitLen() > 64:
		if n != 0 || err != api.ErrCount {
			t.Errorf("%s: Len: %d, %d; want ErrCount (%v)", what, n, err, want)
		}
	case n != want.Uint64() || err != api.OK:
		t.Errorf("%s: Len: %d, %d; want %v", what, n, err, want)
	}
}

// edges are sizes whose product has about 2^64 lists.
func edges() [][]int {
	return [][]int{
		same(63, 2),
		same(64, 2),
		{3, 5, 17, 257, 641, 65537, 6700417}, // 2^64 - 1
		{math.MaxInt},
		{math.MaxInt, 2},
		{math.MaxInt, 3},
		{2, math.MaxInt},
		{1 << 32, 1 << 31},
		{1 << 32, 1 << 32},
		{1 << 32, 1<<32 - 1},
		{1<<32 + 1, 1<<32 - 1},
		{math.MaxInt, math.MaxInt, 0},
		{0, math.MaxInt, math.MaxInt},
		{math.MaxInt, 0, math.MaxInt},
		append(same(63, math.MaxInt), 0),
		append(same(62, 1), math.MaxInt, 2),
		same(64, 1),
		same(64, 0),
	}
}

func TestLen(t *testing.T) {
	for _, sizes := range edges() {
		checkLen(t, "Product"+text(sizes), productOf(t, sizes...), productCount(sizes))
	}
	for n := range 65 {
		checkLen(t, "Orders"+text([]int{n}), ordersOf(t, n), factorial(n))
	}
	for a := range 65 {
		for b := range 65 - a {
			checkLen(t, "Weaves"+text([]int{a, b}), weavesOf(t, a, b), weavesCount([]int{a, b}))
			for _, c := range []int{0, 1, 2, 5, 64 - a - b} {
				if l := []int{a, c, b}; sum(l) <= 64 {
					checkLen(t, "Weaves"+text(l), weavesOf(t, l...), weavesCount(l))
				}
			}
		}
	}
	for n := range 65 {
		l := same(n, 1)
		checkLen(t, "Weaves"+text(l), weavesOf(t, l...), weavesCount(l))
	}
	if n, err := ordersOf(t, 20).Len(); n != 2432902008176640000 || err != api.OK {
		t.Errorf("Orders(20).Len: %d, %d", n, err)
	}
	if n, err := weavesOf(t, 32, 32).Len(); n != 1832624140942590534 || err != api.OK {
		t.Errorf("Weaves(32, 32).Len: %d, %d", n, err)
	}
}

// large are countable spaces of very many lists, each with its last one.
func large(t *testing.T) []sample {
	var all []sample
	for _, sizes := range edges() {
		if count := productCount(sizes); count.Sign() > 0 && count.BitLen() <= 64 {
			last := slices.Clone(sizes)
			for i := range last {
				last[i]--
			}
			all = append(all, sample{"Product" + text(sizes), productOf(t, sizes...), [][]int{last}})
		}
	}
	for n := 9; n <= 20; n++ {
		var last []int
		for i := range n {
			last = append(last, n-1-i)
		}
		all = append(all, sample{"Orders" + text([]int{n}), ordersOf(t, n), [][]int{last}})
	}
	for _, lengths := range [][]int{
		{32, 32}, {64}, {0, 64}, {64, 0, 0}, {63, 1}, {1, 63}, {20, 20, 5}, {0, 30, 0, 10, 1, 0, 3},
		{5, 5, 5, 5, 5}, {8, 8, 8, 8}, same(20, 1), {1, 2, 3, 4, 5, 6}, {6, 5, 4, 3, 2, 1}, {54, 2, 2, 2, 2, 2}, append(same(60, 0), 16, 16, 8, 1),
	} {
		var last []int
		for i, n := range slices.Backward(lengths) {
			last = append(last, same(n, i)...)
		}
		all = append(all, sample{"Weaves" + text(lengths), weavesOf(t, lengths...), [][]int{last}})
	}
	return all
}

// TestLarge: lists have numbers there that lead back to them, rise with them, and are those in whose order they are gone through.
func TestLarge(t *testing.T) {
	for i, c := range large(t) {
		size, err := c.space.Len()
		if err != api.OK {
			t.Fatalf("%s: Len: %d", c.name, err)
		}
		if n, err := c.space.Rank(c.want[0]); n != size-1 || err != api.OK {
			t.Errorf("%s: the last list has the number %d, %d; want %d", c.name, n, err, size-1)
		}
		numbers := []uint64{0, size / 2, size - 1, size - min(size, 40)}
		next := dice(uint64(i))
		for range 60 {
			numbers = append(numbers, next()%size)
		}
		slices.Sort(numbers)
		checkNumbers(t, c, numbers)
		for _, n := range []uint64{0, size / 3, size - min(size, 40)} {
			checkFrom(t, c, n, size)
		}
		checkNone(t, c.name, c.space, size, api.ErrNone)
		checkNone(t, c.name, c.space, math.MaxUint64, api.ErrNone)
	}
}

func checkNumbers(t *testing.T, c sample, numbers []uint64) {
	t.Helper()
	var last []int
	for i, n := range numbers {
		l, err := c.space.At(n)
		if err != api.OK {
			t.Fatalf("%s: At(%d): %d", c.name, n, err)
		}
		if back, err := c.space.Rank(l); back != n || err != api.OK {
			t.Fatalf("%s: Rank(At(%d)): %d, %d", c.name, n, back, err)
		}
		if i > 0 && (slices.Compare(last, l) < 0) != (numbers[i-1] < n) {
			t.Fatalf("%s: %v has the number %d, %v %d", c.name, last, numbers[i-1], l, n)
		}
		last = l
	}
}

// checkFrom goes some lists far from one on.
func checkFrom(t *testing.T, c sample, n, size uint64) {
	t.Helper()
	from, err := c.space.From(n)
	if err != api.OK {
		t.Fatalf("%s: From(%d): %d", c.name, n, err)
	}
	got := take(from, 50)
	if uint64(len(got)) != min(50, size-n) {
		t.Fatalf("%s: From(%d) goes through %d lists of %d", c.name, n, len(got), size)
	}
	if n == 0 && !alike(got, take(c.space.All(), 50)) {
		t.Fatalf("%s: From(0) goes through others than All", c.name)
	}
	for i, l := range got {
		if want, _ := c.space.At(n + uint64(i)); !slices.Equal(l, want) {
			t.Fatalf("%s: From(%d) goes through %v at %d; want %v", c.name, n, l, i, want)
		}
	}
}
