package cand_test

import (
	"testing"

	"weir/api"
	"weir/cand"
	"weir/odo"
	"weir/prog"
)

// 18.8: All goes through candidates alone, each once, and there is one at least.
func TestAllAreCandidates(t *testing.T) {
	roll := dice(1881)
	for range 300 {
		p := someProg(t, roll, 9)
		seen := map[string]bool{}
		for x := range allOf(t, p) {
			if e := cand.Check(p, x); e != api.OK {
				t.Fatalf("Check(%v, %v): %d", p, x, e)
			}
			if text := say(x); seen[text] {
				t.Fatalf("All(%v): %s stands there twice", p, text)
			} else if seen[text] = true; len(seen) == 2000 {
				break
			}
		}
		if len(seen) == 0 {
			t.Fatalf("All(%v): none", p)
		}
	}
}

// 18.8, 18.9: All goes through the candidates of all runs.
func TestRunsAreInAll(t *testing.T) {
	roll, weaves := dice(1882), 0
	for _, p := range smallProgs(t, roll, 200, 300) {
		seen := map[string]bool{}
		for x := range allOf(t, p) {
			seen[say(x)] = true
		}
		s, _ := odo.Weaves(lengths(p))
		for order := range s.All() {
			x, e := cand.Run(p, order)
			if e != api.OK || !seen[say(x)] {
				t.Fatalf("Run(%v, %v): %v %d is none of All's", p, order, x, e)
			}
			weaves++
		}
		// The threads one behind the other: prog.Run's end.
		var order []int
		for i, n := range lengths(p) {
			for range n {
				order = append(order, i)
			}
		}
		x, _ := cand.Run(p, order)
		f, e := cand.End(p, x)
		if want, _ := prog.Run(p); e != api.OK || f != want {
			t.Fatalf("End(%v, %v): %v %d; want %v", p, x, f, e, want)
		}
	}
	if weaves < 1000 {
		t.Errorf("%d weaves alone", weaves)
	}
}

// 18.10: each read has the value of the write that it reads from, and there are as many values as events.
func TestValuesAreRight(t *testing.T) {
	roll, reads := dice(1883), 0
	for range 300 {
		p := someProg(t, roll, 9)
		n := 0
		for x := range allOf(t, p) {
			if len(x.Values) != len(x.Events) || len(x.From) != len(x.Events) {
				t.Fatalf("All(%v): %v", p, x)
			}
			values, regs, e := cand.Resolve(p, failsOf(p, x.Events), x.From)
			if e != api.OK || len(values) != len(x.Events) || len(regs) != len(p.Threads) {
				t.Fatalf("Resolve(%v, %v): %v %v %d", p, x, values, regs, e)
			}
			for i, e := range x.Events {
				if (e.Kind == api.ERead) != (x.From[i] >= 0) || e.Kind == api.EFence && x.Values[i] != 0 {
					t.Fatalf("All(%v): %v", p, x)
				}
				if e.Kind == api.ERead {
					reads++
					if x.Values[i] != x.Values[x.From[i]] || values[i] != x.Values[i] {
						t.Fatalf("All(%v): the read %d of %v", p, i, x)
					}
				}
			}
			if n++; n == 500 {
				break
			}
		}
	}
	if reads < 1000 {
		t.Errorf("%d reads", reads)
	}
}

// 18.3, 18.4: where values can always be found and there are no tries, All goes through the whole space.
func TestSpaceIsAll(t *testing.T) {
	for _, threads := range [][]string{
		{"MOV [x],$1; MOV EAX,[y]", "MOV [y],$1; MOV EAX,[x]"},
		{"MOV [x],$1; MOV [x],$2; MOV EAX,[x]", "MOV [x],$3; MOV EAX,[x]"},
		{"XCHG [x],EBX; MOV [y],$1", "MOV EAX,[x]; MOV EAX,[y]; MOV [y],$2"},
		{"MFENCE"},
	} {
		p := of(t, "0:EBX=4", threads...)
		n := uint64(0)
		for range allOf(t, p) {
			n++
		}
		if want, e := cand.Space(p, 0); e != api.OK || n != want {
			t.Errorf("%q: %d candidates; Space %d %d", threads, n, want, e)
		}
	}
}
