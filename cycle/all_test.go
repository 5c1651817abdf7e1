package cycle_test

import (
	"fmt"
	"iter"
	"slices"
	"strings"
	"sync"
	"testing"

	"weir/api"
	"weir/cycle"
)

// over is the iterator of calls that no error refuses.
func over(t *testing.T, names []string, n int) iter.Seq[[]string] {
	t.Helper()
	it, e := cycle.All(names, n)
	if e != api.OK || it == nil {
		t.Fatalf("All(%v, %d): %d", names, n, e)
	}
	return it
}

// told is lists as one text, to be held against another one.
func told(l [][]string) string { return fmt.Sprintf("%q", l) }

// says holds all canonical forms against a list of them.
func says(t *testing.T, names string, n int, want ...string) {
	t.Helper()
	var l []string
	for c := range over(t, words(names), n) {
		l = append(l, strings.Join(c, " "))
	}
	if !slices.Equal(l, want) {
		t.Errorf("All(%s, %d): %q; want %q", names, n, l, want)
	}
}

// 26.4: written out.
func TestAll(t *testing.T) {
	says(t, "PodWR Fre MFencedWR", 4, "PodWR Fre PodWR Fre", "PodWR Fre MFencedWR Fre", "MFencedWR Fre MFencedWR Fre")
	says(t, "MFencedWR MFencedWR Fre PodWR Fre", 4, "PodWR Fre PodWR Fre", "PodWR Fre MFencedWR Fre", "MFencedWR Fre MFencedWR Fre") // in any order, and more than once
	says(t, "PodWR Fre", 5)
	says(t, "PodWR Fre", 6, "PodWR Fre PodWR Fre PodWR Fre")
	says(t, "PodWR Fre", 16, strings.TrimSpace(strings.Repeat("PodWR Fre ", 8)))
	says(t, "Coe PodWW", 4, "Coe PodWW PodWW Coe", "PodWW Coe PodWW Coe")
	says(t, "Rfe PodRR Fre PodWW", 4, "Rfe PodRR PodRR Fre", "Fre PodWW PodWW Rfe", "PodRR Fre PodWW Rfe")
	for n := 2; n <= 16; n++ { // none at all
		says(t, "", n)
		says(t, "Rfe", n)
		says(t, "PodRR", n)
		says(t, "Coe", n)
		says(t, "Rfe Fre Coe", n)                       // none leads away
		says(t, "Rfe Fre Coe Rfi Fri Coi PosWW", n)     // none leads away
		says(t, "PodRR PodRW PodWR PodWW MFencedRR", n) // none goes out
		says(t, "Rfe PodRR", n)                         // none leads from a read to a write
	}
	for n := 2; n <= 3; n++ { // too few edges: two go out, and two others lead away
		says(t, known, n)
	}
}

// 26.4: what is refused.
func TestAllWrong(t *testing.T) {
	refused := func(names []string, n int, want api.Errno) {
		t.Helper()
		if it, e := cycle.All(names, n); e != want || it != nil {
			t.Errorf("All(%q, %d): %d, iterator nil: %v; want %d", names, n, e, it == nil, want)
		}
	}
	for _, n := range []int{-1 << 63, -16, -2, -1, 0, 1, 17, 18, 64, 1 << 32, 1<<32 + 4, 1<<63 - 1} {
		refused(nil, n, api.ErrRange)
		refused(words(known), n, api.ErrRange)
		refused([]string{"Pod"}, n, api.ErrRange) // the number comes first
	}
	for _, s := range []string{"", "Pod", "rfe", "Rfe ", "PodXX", "\x00", strings.Repeat("Rfe", 1000)} {
		for n := 2; n <= 16; n++ {
			refused([]string{s}, n, api.ErrCycle)
			refused([]string{"Fre", "PodWR", s}, n, api.ErrCycle)
			refused([]string{s, "Fre", "PodWR"}, n, api.ErrCycle)
		}
	}
	many := slices.Repeat(words(known), 1000)
	if l := all(t, many, 4); told(l) != told(all(t, words(known), 4)) {
		t.Errorf("All of many names: %d", len(l))
	}
	refused(append(many, "x"), 4, api.ErrCycle)
}

// allOf is the canonical forms of n edges among names, rising: all lists are gone through.
func allOf(names []string, n int) [][]string {
	var rising, l [][]string
	for _, s := range words(known) {
		if slices.Contains(names, s) {
			rising = append(rising, []string{s})
		}
	}
	rounds(slices.Concat(rising...), n, func(c []string) {
		if _, e := checkOf(c); e == api.OK && slices.Equal(canonOf(c), c) {
			l = append(l, c)
		}
	})
	slices.SortFunc(l, inOrder)
	return l
}

// 26.4: held against all lists: of all edges up to five, of some edges more.
func TestAllOfAll(t *testing.T) {
	for n := 2; n <= 5; n++ {
		if l, want := all(t, words(known), n), allOf(words(known), n); told(l) != told(want) {
			t.Errorf("All of %d: %d cycles; want %d", n, len(l), len(want))
		}
	}
	roll := dice(264)
	some, long := 0, 0
	for range 300 {
		names := someNames(roll, words(known), 1+roll(9))
		for n := 4; n <= 16 && ways(names, n) <= 6000; n++ {
			want := allOf(names, n)
			if l := all(t, names, n); told(l) != told(want) {
				t.Fatalf("All(%v, %d): %q; want %q", names, n, l, want)
			}
			some += len(want)
			if n > 8 {
				long += len(want)
			}
		}
	}
	if some < 10000 || long < 2000 {
		t.Errorf("%d cycles, %d of them of more than eight edges", some, long)
	}
}

// ways is how many lists of n names there are in which each one begins with what the one ahead ends with.
func ways(names []string, n int) int {
	from := map[byte]int{'R': 1, 'W': 1} // of no more edges, by the event from which they go on
	for range n {
		next := map[byte]int{}
		for _, s := range names {
			next[ends(s)[0]] += from[ends(s)[1]]
		}
		from = next
	}
	return from['R'] + from['W']
}

// 26.4: each cycle comes to one of them, and they rise.
func TestAllHasEach(t *testing.T) {
	forms := map[string]int{}
	var last []string
	for l := range over(t, words(known), 7) {
		if last != nil && inOrder(last, l) >= 0 {
			t.Fatalf("All: %v behind %v", l, last)
		}
		forms[strings.Join(l, " ")]++
		last = l
	}
	roll := dice(2641)
	for range 5000 {
		c := someCycle(t, roll, 7, 7)
		if f := strings.Join(canonOf(c), " "); forms[f] != 1 {
			t.Fatalf("All: %s, the canonical form of %v, %d times", f, c, forms[f])
		}
	}
	// A seventh of all lists of seven that are cycles, counted by what they have in common: no such list is a turn of itself.
	if len(forms) != 203836 {
		t.Errorf("All of 7: %d cycles", len(forms))
	}
}

// R7: what is not asked for is not reckoned: the first ones of far too many.
func TestAllAsFarAsAsked(t *testing.T) {
	roll := dice(2642)
	for range 400 {
		names := someNames(roll, words(known), 3+roll(16))
		n := 8 + roll(9)
		var last []string
		got := 0
		for l := range over(t, names, n) {
			if _, e := checkOf(l); e != api.OK || len(l) != n || !slices.Equal(canonOf(l), l) || last != nil && inOrder(last, l) >= 0 {
				t.Fatalf("All(%v, %d): %v behind %v", names, n, l, last)
			}
			if slices.ContainsFunc(l, func(s string) bool { return !slices.Contains(names, s) }) {
				t.Fatalf("All(%v, %d): %v", names, n, l)
			}
			last = l
			if got++; got == 100 {
				break
			}
		}
	}
	for l := range over(t, words(known), 16) {
		if s := strings.Join(l, " "); s != strings.Repeat("Rfe Fre ", 6)+"Rfe PodRR PodRR Fre" {
			t.Errorf("All of 16: %s at first", s)
		}
		break
	}
	// Great sets of edges without any cycle.
	says(t, "Rfe PodRR PodWR PodWW PosRR PosWR PosWW MFencedRR MFencedWR MFencedWW Rfi Coe Coi", 3)
	says(t, "Rfi Fri Coi PodRR PodRW PodWR PodWW PosRR PosRW PosWR PosWW MFencedRR MFencedRW MFencedWR MFencedWW", 16)
	says(t, "Rfe Fre Coe Rfi Fri Coi PosRR PosRW PosWR PosWW", 16)
	says(t, "Rfe PodRR PosRR MFencedRR PodRW PosRW MFencedRW PodWW PosWW MFencedWW Coi Fri", 3)
}

// R7: an iterator may be left, gone over again, within itself and by several at once; its lists are new memory (26.6).
func TestAllAgain(t *testing.T) {
	names := append(words("PodWR Fre MFencedWR Rfe PodRR"), "spare")[:5]
	it := over(t, names, 6)
	want := slices.Collect(it)
	if len(want) < 10 {
		t.Fatalf("All: %q", want)
	}
	for n := range want {
		var l [][]string
		for c := range it {
			if l = append(l, c); len(l) > n {
				break
			}
		}
		if told(l) != told(want[:n+1]) {
			t.Fatalf("All, left behind %d: %q", n+1, l)
		}
	}
	outer := 0
	for c := range it {
		for inner := range it {
			clear(inner[:cap(inner)]) // nobody else has it
		}
		if told([][]string{c}) != told(want[outer:outer+1]) {
			t.Errorf("All within itself, at %q", c)
		}
		clear(c[:cap(c)])
		outer++
	}
	if outer != len(want) {
		t.Errorf("All within itself: %d", outer)
	}
	var several sync.WaitGroup
	for range 4 {
		several.Go(func() {
			if l := slices.Collect(it); told(l) != told(want) {
				t.Errorf("All by several: %q", l)
			}
		})
	}
	several.Wait()
	if !slices.Equal(names[:6], words("PodWR Fre MFencedWR Rfe PodRR spare")) {
		t.Errorf("All changes what is handed in: %v", names[:6])
	}
	copy(names, words("Coe PodWW Coi x"))
	if l := slices.Collect(it); told(l) != told(want) {
		t.Errorf("All keeps what is handed in: %q", l)
	}
}
