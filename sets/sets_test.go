package sets_test

import (
	"math"
	"slices"
	"testing"

	"weir/api"
	"weir/sets"
)

const full = ^api.Set(0)

// samples are sets of all kinds: the empty one, the full one, the ends, runs, and scattered numbers.
func samples() []api.Set {
	l := []api.Set{0, 1, 1 << 63, 1<<63 | 1, full, full - 1, full >> 1, 0xff << 30, 0x5555555555555555, 0xaaaaaaaaaaaaaaaa}
	w := uint64(0x9e3779b97f4a7c15)
	for range 20 {
		w ^= w << 13
		w ^= w >> 7
		w ^= w << 17
		l = append(l, api.Set(w), api.Set(w&(w>>5)))
	}
	return l
}

// numbers are those around the edges of what can be in a set.
func numbers() []int {
	l := []int{math.MinInt, math.MinInt + 1, -65, -64, -1, 64, 65, 127, 128, 1 << 32, math.MaxInt - 1, math.MaxInt}
	for i := range 64 {
		l = append(l, i)
	}
	return l
}

// members are a set's numbers, found bit by bit.
func members(s api.Set) []int {
	var l []int
	for i := range 64 {
		if uint64(s)>>i&1 == 1 {
			l = append(l, i)
		}
	}
	return l
}

func inside(t, s api.Set) bool { return t|s == s }

func TestOf(t *testing.T) {
	for _, c := range []struct {
		l    []int
		want api.Set
		err  api.Errno
	}{
		{nil, 0, api.OK},
		{[]int{}, 0, api.OK},
		{[]int{3, 0, 3}, 9, api.OK},
		{[]int{0}, 1, api.OK},
		{[]int{63}, 1 << 63, api.OK},
		{[]int{63, 62, 0, 63, 0}, 1<<63 | 1<<62 | 1, api.OK},
		{[]int{64}, 0, api.ErrRange},
		{[]int{-1}, 0, api.ErrRange},
		{[]int{1, 2, 64}, 0, api.ErrRange},
		{[]int{-1, 2, 3}, 0, api.ErrRange},
		{[]int{5, math.MaxInt, 6}, 0, api.ErrRange},
		{[]int{math.MinInt}, 0, api.ErrRange},
		{[]int{1 << 32}, 0, api.ErrRange},
	} {
		was := slices.Clone(c.l)
		s, err := sets.Of(c.l)
		if s != c.want || err != c.err {
			t.Errorf("Of(%v) = %d, %d; want %d, %d", c.l, s, err, c.want, c.err)
		}
		if !slices.Equal(c.l, was) {
			t.Errorf("Of changed %v to %v", was, c.l)
		}
	}
	long := make([]int, 100000)
	for i := range long {
		long[i] = i % 64
	}
	if s, err := sets.Of(long); s != full || err != api.OK {
		t.Errorf("Of a long list = %d, %d", s, err)
	}
}

func TestBelow(t *testing.T) {
	for _, n := range numbers() {
		var want api.Set
		for i := range 64 {
			if i < n {
				want |= 1 << i
			}
		}
		if s := sets.Below(n); s != want {
			t.Errorf("Below(%d) = %x; want %x", n, s, want)
		}
	}
}

func TestHasWithWithout(t *testing.T) {
	for _, s := range samples() {
		for _, i := range numbers() {
			has, with, without := false, s, s
			if i >= 0 && i <= 63 {
				has = slices.Contains(members(s), i)
				with = s | 1<<i
				without = with - 1<<i
			}
			if got := sets.Has(s, i); got != has {
				t.Errorf("Has(%x, %d) = %t", s, i, got)
			}
			if got := sets.With(s, i); got != with {
				t.Errorf("With(%x, %d) = %x", s, i, got)
			}
			if got := sets.Without(s, i); got != without {
				t.Errorf("Without(%x, %d) = %x", s, i, got)
			}
		}
	}
}

func TestSizeAndList(t *testing.T) {
	for _, s := range samples() {
		want := members(s)
		if n := sets.Size(s); n != len(want) {
			t.Errorf("Size(%x) = %d", s, n)
		}
		if l := sets.List(s); !slices.Equal(l, want) {
			t.Errorf("List(%x) = %v", s, l)
		}
	}
}

func TestListIsNewMemory(t *testing.T) {
	a, b := sets.List(9), sets.List(9)
	a[0] = 77
	_ = append(a, 78)
	if !slices.Equal(b, []int{0, 3}) || !slices.Equal(sets.List(9), []int{0, 3}) {
		t.Errorf("lists share memory: %v", b)
	}
}

func TestNextAtRank(t *testing.T) {
	for _, s := range samples() {
		l := members(s)
		for _, i := range numbers() {
			next, at, rank := -1, -1, 0
			for _, m := range slices.Backward(l) {
				if m >= i {
					next = m
				} else {
					rank++
				}
			}
			if i >= 0 && i < len(l) {
				at = l[i]
			}
			if got := sets.Next(s, i); got != next {
				t.Errorf("Next(%x, %d) = %d; want %d", s, i, got, next)
			}
			if got := sets.At(s, i); got != at {
				t.Errorf("At(%x, %d) = %d; want %d", s, i, got, at)
			}
			if got := sets.Rank(s, i); got != rank {
				t.Errorf("Rank(%x, %d) = %d; want %d", s, i, got, rank)
			}
		}
	}
}

func TestText(t *testing.T) {
	for _, c := range []struct {
		s    api.Set
		want string
	}{
		{0, "{}"},
		{1, "{0}"},
		{9, "{0 3}"},
		{1 << 63, "{63}"},
		{1<<63 | 1<<10 | 1<<9 | 1, "{0 9 10 63}"},
		{full, "{0 1 2 3 4 5 6 7 8 9 10 11 12 13 14 15 16 17 18 19 20 21 22 23 24 25 26 27 28 29 30 31 32 33 34 35 36 37 38 39 40 41 42 43 44 45 46 47 48 49 50 51 52 53 54 55 56 57 58 59 60 61 62 63}"},
	} {
		if got := sets.Text(c.s); got != c.want {
			t.Errorf("Text(%x) = %q", c.s, got)
		}
	}
}

// TestFollows holds what 1.6 says of At, Rank, Of and List; the walks' part of it is TestSmallWalks.
func TestFollows(t *testing.T) {
	for _, s := range samples() {
		for k := range sets.Size(s) {
			if r := sets.Rank(s, sets.At(s, k)); r != k {
				t.Errorf("Rank(s, At(s, %d)) = %d of %x", k, r, s)
			}
		}
		for _, i := range sets.List(s) {
			if a := sets.At(s, sets.Rank(s, i)); a != i {
				t.Errorf("At(s, Rank(s, %d)) = %d of %x", i, a, s)
			}
		}
		if o, err := sets.Of(sets.List(s)); o != s || err != api.OK {
			t.Errorf("Of(List(%x)) = %x, %d", s, o, err)
		}
	}
}
