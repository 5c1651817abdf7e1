package pso_test

import (
	"fmt"
	"math"
	"reflect"
	"testing"

	"weir/api"
	"weir/pso"
)

// holdSorted holds Sorted of a state against the chapter, and asks whether it leaves the state alone.
func holdSorted(t *testing.T, s api.State) {
	t.Helper()
	s = wide(s)
	before := whole(reflect.ValueOf(s))
	got := pso.Sorted(s)
	if want := ordered(s); !sameState(got, want) {
		t.Fatalf("Sorted(%.300s): %.300s; want %.300s", fmt.Sprint(s), fmt.Sprint(got), fmt.Sprint(want))
	}
	apart(t, got, s, pso.Sorted(s))
	if after := whole(reflect.ValueOf(s)); after != before {
		t.Fatalf("Sorted has changed %s to %s", before, after)
	}
}

// 13.4: the chapter's example 2.
func TestExampleSorted(t *testing.T) {
	s := pso.Sorted(api.State{Buf: [][]api.Write{{{Loc: 1, Value: 1}, {Loc: 0, Value: 2}, {Loc: 1, Value: 3}}}})
	if want := [][]api.Write{{{Loc: 0, Value: 2}, {Loc: 1, Value: 1}, {Loc: 1, Value: 3}}}; !sameState(s, api.State{Buf: want}) {
		t.Errorf("Sorted: %v; want %v", s, want)
	}
}

// 13.4: all buffers of up to six writes to four locations, two of them as far apart as can be.
func TestSortedSmall(t *testing.T) {
	locs := []int{math.MinInt, 0, 1, math.MaxInt}
	for n := range 7 {
		for code := range 1 << (2 * n) {
			var buf []api.Write
			for k := range n {
				buf = append(buf, api.Write{Loc: locs[code>>(2*k)&3], Value: int64(k)})
			}
			holdSorted(t, api.State{Buf: [][]api.Write{buf}, Lock: code})
		}
	}
}

// 13.4: states of programs; those that are of none, and their lists of any length, too.
func TestSortedAny(t *testing.T) {
	roll := dice(1341)
	holdSorted(t, api.State{})
	if s := pso.Sorted(api.State{}); !sameState(s, api.State{}) {
		t.Errorf("Sorted of nothing: %v", s)
	}
	for _, p := range someProgs(t, roll, 100) {
		for range 5 {
			holdSorted(t, someState(roll, p))
		}
	}
	for range 10 {
		for _, turn := range twists() {
			s := wide(someState(roll, all(t)))
			turn(&s)
			holdSorted(t, s)
		}
	}
	s := api.State{PC: []int{-5}, Phase: []int{7, 8, 9}, Regs: [][]int64{nil, {1}}, Mem: []int64{4}, Buf: make([][]api.Write, 9), Lock: -9}
	for k := range 3000 {
		s.Buf[k%2*8] = append(s.Buf[k%2*8], api.Write{Loc: roll(50) - 25, Value: int64(k)})
	}
	holdSorted(t, s)
}

// 13.4: what is sorted is in order, and stays as it is.
func TestSortedTwice(t *testing.T) {
	roll := dice(1342)
	for _, p := range someProgs(t, roll, 100) {
		s := someState(roll, p)
		once := pso.Sorted(s)
		if !sameState(pso.Sorted(once), once) {
			t.Fatalf("Sorted of Sorted of %.300s differs", fmt.Sprint(s))
		}
		for i := range p.Threads {
			for loc := range p.Locs {
				a, _ := pso.See(p, s, i, loc)
				if b, e := pso.See(p, once, i, loc); a != b || e != api.OK {
					t.Fatalf("behind Sorted of %.300s thread %d sees %d at %d; it saw %d", fmt.Sprint(s), i, b, loc, a)
				}
			}
		}
	}
}
