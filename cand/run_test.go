package cand_test

import (
	"math"
	"reflect"
	"slices"
	"testing"

	"weir/api"
	"weir/cand"
	"weir/odo"
	"weir/sc"
)

// lengths is how many instructions each thread has.
func lengths(p api.Prog) []int {
	var l []int
	for _, ops := range p.Threads {
		l = append(l, len(ops))
	}
	return l
}

// someWeave is an unruly order of the threads' turns.
func someWeave(roll func(int) int, p api.Prog) []int {
	var order []int
	left := lengths(p)
	for {
		var can []int
		for i, n := range left {
			if n > 0 {
				can = append(can, i)
			}
		}
		if can == nil {
			return order
		}
		i := pick(roll, can)
		order = append(order, i)
		left[i]--
	}
}

// holdRun holds Run of a weave against the words and against what follows.
func holdRun(t *testing.T, p api.Prog, order []int) api.Exec {
	t.Helper()
	x, e := cand.Run(p, order)
	if want := saysRun(t, p, order); e != api.OK || say(x) != say(want) {
		t.Fatalf("Run(%v, %v): %v %d; want %v", p, order, x, e, want)
	}
	if e := cand.Check(p, x); e != api.OK {
		t.Fatalf("Check of Run(%v, %v): %d", p, order, e)
	}
	end, e := cand.End(p, x)
	if f, _ := sc.Play(p, order); e != api.OK || f != end {
		t.Fatalf("End of Run(%v, %v): %v %d; want %v", p, order, end, e, f)
	}
	return x
}

// 18.6, 18.9: all weaves of small programs.
func TestRun(t *testing.T) {
	roll, failed := dice(1861), 0
	for _, p := range smallProgs(t, roll, 400, 400) {
		s, _ := odo.Weaves(lengths(p))
		n := 0
		for order := range s.All() {
			x := holdRun(t, p, order)
			if failsOf(p, x.Events) != 0 {
				failed++
			}
			if n++; n == 200 {
				break
			}
		}
	}
	if failed < 100 {
		t.Errorf("%d runs with tries that failed", failed)
	}
}

// 18.6, 18.9: unruly weaves of greater programs.
func TestRunGreat(t *testing.T) {
	roll, fails, wrote := dice(1862), 0, 0
	var progs []api.Prog
	for _, p := range greatProgs(t) {
		progs = append(progs, p)
	}
	for range 200 {
		progs = append(progs, someProg(t, roll, 25))
	}
	for _, p := range progs {
		for range 5 {
			x := holdRun(t, p, someWeave(roll, p))
			for _, e := range x.Events {
				if e.Kind == api.EWrite && e.Locked && p.Threads[e.Thread][e.Index].Kind == api.OCmpxchg {
					wrote++
				}
			}
			for set := failsOf(p, x.Events); set != 0; set &= set - 1 {
				fails++
			}
		}
	}
	if fails < 100 || wrote < 100 {
		t.Errorf("%d tries failed, %d wrote", fails, wrote)
	}
}

// 18.6: written out.
func TestRunWritten(t *testing.T) {
	for _, c := range []struct {
		settings string
		threads  []string
		order    []int
		from     []int
		writes   [][]int
		values   []int64
	}{
		{"", []string{"MOV [x],$1; MOV EAX,[x]", "MOV [x],$2"}, []int{1, 0, 0}, []int{-1, -1, 1, -1}, [][]int{{0, 3, 1}}, []int64{0, 1, 1, 2}},
		{"", []string{"MOV [x],$1; MOV EAX,[x]", "MOV [x],$2"}, []int{0, 1, 0}, []int{-1, -1, 3, -1}, [][]int{{0, 1, 3}}, []int64{0, 1, 2, 2}},
		{"x=4", []string{"MOV EAX,[x]; MOV [x],$1"}, []int{0, 0}, []int{-1, 0, -1}, [][]int{{0, 2}}, []int64{4, 4, 1}},
		// Of two tries the one that comes later fails.
		{"0:EBX=5; 1:EBX=6", []string{"LOCK CMPXCHG [x],EBX", "LOCK CMPXCHG [x],EBX"}, []int{0, 1}, []int{-1, 0, -1, 2}, [][]int{{0, 2}}, []int64{0, 0, 5, 5}},
		{"0:EBX=5; 1:EBX=6", []string{"LOCK CMPXCHG [x],EBX", "LOCK CMPXCHG [x],EBX"}, []int{1, 0}, []int{-1, 3, 0, -1}, [][]int{{0, 3}}, []int64{0, 6, 0, 6}},
		// A locked instruction reads ahead of its own write; the next one reads that.
		{"0:EAX=2", []string{"LOCK XADD [x],EAX; XCHG [x],EAX"}, []int{0, 0}, []int{-1, 0, -1, 2, -1}, [][]int{{0, 2, 4}}, []int64{0, 0, 2, 2, 0}},
		// Instructions without events take turns, too.
		{"", []string{"MOV EAX,$3; MOV [x],EAX", "MFENCE; MOV EAX,[x]"}, []int{1, 0, 1, 0}, []int{-1, -1, -1, 0}, [][]int{{0, 1}}, []int64{0, 3, 0, 0}},
		{"", []string{"MOV EAX,$3; MOV [x],EAX", "MFENCE; MOV EAX,[x]"}, []int{1, 0, 0, 1}, []int{-1, -1, -1, 1}, [][]int{{0, 1}}, []int64{0, 3, 0, 3}},
		{"", []string{"", ""}, nil, nil, nil, nil},
	} {
		p := of(t, c.settings, c.threads...)
		x := holdRun(t, p, c.order)
		if !slices.Equal(x.From, c.from) || !slices.EqualFunc(x.Order, c.writes, slices.Equal) || !slices.Equal(x.Values, c.values) {
			t.Errorf("Run(%q, %v): %v", c.threads, c.order, x)
		}
	}
}

// 18.6: lists that are no weaves.
func TestRunWrong(t *testing.T) {
	p := sb(t)
	for _, order := range [][]int{nil, {0}, {0, 0, 1}, {0, 0, 0, 1}, {0, 0, 1, 1, 1}, {0, 0, 1, 1, 0}, {0, 0, 1, 2}, {0, 0, 1, -1}, {-1, 0, 0, 1, 1}, {math.MinInt, 0, 0, 1}, {0, 0, 1, math.MaxInt}, {0, 0, 1, 1, 4}} {
		if x, e := cand.Run(p, order); e != api.ErrPick || !reflect.DeepEqual(x, api.Exec{}) {
			t.Errorf("Run(SB, %v): %v %d", order, x, e)
		}
	}
	if x, e := cand.Run(bare(1), []int{0}); e != api.ErrPick || !reflect.DeepEqual(x, api.Exec{}) {
		t.Errorf("Run of a thread without instructions: %v %d", x, e)
	}
}

// 18.7, R4: Run changes and keeps nothing, and answers new memory.
func TestRunMemory(t *testing.T) {
	roll := dice(1863)
	for range 200 {
		p := wide(someProg(t, roll, 10))
		order := wide(someWeave(roll, p))
		before := whole(reflect.ValueOf(p)) + whole(reflect.ValueOf(order))
		x, _ := cand.Run(p, order)
		y, _ := cand.Run(p, order)
		if after := whole(reflect.ValueOf(p)) + whole(reflect.ValueOf(order)); after != before {
			t.Fatalf("what was handed in has changed: %s; it was %s", after, before)
		}
		apart(t, p, order, x, y)
		text := say(y)
		spoil(reflect.ValueOf(&x).Elem())
		if z, _ := cand.Run(p, order); say(y) != text || say(z) != text {
			t.Fatalf("Run: %v; it was %s", z, text)
		}
	}
}
