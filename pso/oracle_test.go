package pso_test

import (
	"fmt"
	"math"
	"slices"
	"testing"

	"weir/api"
	"weir/pso"
	"weir/tso"
)

// What the chapter says is said here of layer 12's calls, which that layer's tests hold against its own chapter.

// rowsOf is writes in order: those of the least location, of the next one, and so on.
func rowsOf(l []api.Write) []api.Write {
	var locs []int
	for _, w := range l {
		locs = append(locs, w.Loc)
	}
	slices.Sort(locs)
	rows := []api.Write{}
	for _, loc := range slices.Compact(locs) {
		for _, w := range l {
			if w.Loc == loc {
				rows = append(rows, w)
			}
		}
	}
	return rows
}

// ordered is a state in memory of its own, its buffers put in order.
func ordered(s api.State) api.State {
	s = wide(s)
	for i := range s.Buf {
		s.Buf[i] = rowsOf(s.Buf[i])
	}
	return s
}

// atLocked tells whether a thread's next instruction is a locked one.
func atLocked(p api.Prog, s api.State, thread int) bool {
	locked := []int{api.OXchg, api.OCmpxchg, api.OXadd}
	return s.PC[thread] < len(p.Threads[thread]) && slices.Contains(locked, p.Threads[thread][s.PC[thread]].Kind)
}

func isProper(p api.Prog, s api.State) bool {
	for i := range p.Threads {
		if !slices.Equal(s.Buf[i], rowsOf(s.Buf[i])) {
			return false
		}
		if i != s.Lock && s.Phase[i] != 0 {
			return false
		}
		if i == s.Lock && (s.Phase[i] == 0 || !atLocked(p, s, i)) {
			return false
		}
	}
	return true
}

func isDone(p api.Prog, s api.State) bool {
	for i, l := range p.Threads {
		if s.PC[i] != len(l) || len(s.Buf[i]) != 0 {
			return false
		}
	}
	return isProper(p, s)
}

// behind is the state behind a pick, if it can be done.
func behind(p api.Prog, s api.State, k api.Pick) (api.State, bool) {
	if k.Thread < 0 || k.Thread >= len(p.Threads) || !isProper(p, s) {
		return api.State{}, false
	}
	if k.Kind == api.PFlush {
		at := slices.IndexFunc(s.Buf[k.Thread], func(w api.Write) bool { return w.Loc == k.Loc })
		if at < 0 {
			return api.State{}, false
		}
		// x86-TSO takes the write that stands first, whatever its location.
		w := s.Buf[k.Thread][at]
		s.Buf = slices.Clone(s.Buf)
		s.Buf[k.Thread] = slices.Concat([]api.Write{w}, s.Buf[k.Thread][:at], s.Buf[k.Thread][at+1:])
		k.Loc = 0
	}
	next, e := tso.Step(p, s, k)
	if e != api.OK {
		return api.State{}, false
	}
	return ordered(next), true
}

// picksOf is all that can be done, found by trying.
func picksOf(p api.Prog, s api.State) []api.Pick {
	var l []api.Pick
	try := func(k api.Pick) {
		if _, ok := behind(p, s, k); ok {
			l = append(l, k)
		}
	}
	for i := range p.Threads {
		try(stepOf(i))
		for loc := range p.Locs {
			try(flushOf(i, loc))
		}
	}
	return l
}

func sees(s api.State, thread, loc int) int64 {
	for _, w := range slices.Backward(s.Buf[thread]) {
		if w.Loc == loc {
			return w.Value
		}
	}
	return s.Mem[loc]
}

// somePicks is picks of all kinds, right and wrong.
func somePicks() []api.Pick {
	var l []api.Pick
	for _, i := range []int{math.MinInt, -1, 0, 1, 2, 3, 4, math.MaxInt} {
		for _, kind := range []int{-1, 0, api.PStep, api.PFlush, 3} {
			for _, loc := range []int{math.MinInt, -1, 0, 1, 2, 3, 15, 16, math.MaxInt} {
				l = append(l, api.Pick{Thread: i, Kind: kind, Loc: loc})
			}
		}
	}
	return l
}

// nearPicks is the picks of one thread that may be right.
func nearPicks() []api.Pick {
	return []api.Pick{stepOf(0), flushOf(0, 0), flushOf(0, 1), flushOf(0, 2)}
}

// hold holds all that is asked of a state against the chapter, steps by some picks and by all that can be done.
func hold(t *testing.T, p api.Prog, s api.State, some []api.Pick) {
	t.Helper()
	name := func() string { return fmt.Sprintf("%.300s in %.300s", fmt.Sprint(s), fmt.Sprint(p.Threads)) }
	want := picksOf(p, s)
	if l, e := pso.Picks(p, s); e != api.OK || !slices.Equal(l, want) {
		t.Fatalf("Picks of %s: %v, %d; want %v", name(), l, e, want)
	}
	if ok, e := pso.Done(p, s); e != api.OK || ok != isDone(p, s) {
		t.Fatalf("Done of %s: %v, %d", name(), ok, e)
	}
	for _, k := range slices.Concat(some, want) {
		next, e := pso.Step(p, s, k)
		right, ok := behind(p, s, k)
		if ok != slices.Contains(want, k) {
			t.Fatalf("the words are at odds about %v in %s", k, name())
		}
		if !ok && (e != api.ErrPick || !sameState(next, api.State{})) || ok && (e != api.OK || !sameState(next, right)) {
			t.Fatalf("Step %v of %s: %.300s, %d; want %.300s %v", k, name(), fmt.Sprint(next), e, fmt.Sprint(right), ok)
		}
	}
	for i := range p.Threads {
		for loc := range p.Locs {
			if v, e := pso.See(p, s, i, loc); e != api.OK || v != sees(s, i, loc) {
				t.Fatalf("See %d %d of %s: %d, %d", i, loc, name(), v, e)
			}
		}
	}
}
