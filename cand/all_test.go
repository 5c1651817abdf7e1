package cand_test

import (
	"iter"
	"reflect"
	"slices"
	"sync"
	"testing"

	"weir/api"
	"weir/cand"
)

func allOf(t *testing.T, p api.Prog) iter.Seq[api.Exec] {
	t.Helper()
	it, e := cand.All(p)
	if e != api.OK || it == nil {
		t.Fatalf("All(%v): %d", p, e)
	}
	return it
}

// texts is the first so many of what an iterator goes through, as texts.
func texts(it iter.Seq[api.Exec], most int) []string {
	var l []string
	for x := range it {
		if len(l) == most {
			break
		}
		l = append(l, say(x))
	}
	return l
}

// says is all candidates, as texts.
func says(p api.Prog) []string {
	var l []string
	for _, x := range saysAll(p) {
		l = append(l, say(x))
	}
	return l
}

// 18.4, 18.8: all candidates, in their order, each once, and no others.
func TestAll(t *testing.T) {
	roll, candidates, many := dice(1841), 0, 0
	for _, p := range smallProgs(t, roll, 600, 400) {
		want := says(p)
		if len(want) == 0 {
			t.Fatalf("%v has no candidate", p)
		}
		it := allOf(t, p)
		for range 2 {
			if got := texts(it, 1<<30); !slices.Equal(got, want) {
				t.Fatalf("All(%v): %d; want %d: %v; want %v", p, len(got), len(want), got, want)
			}
		}
		candidates += len(want)
		if len(want) > 20 {
			many++
		}
	}
	if candidates < 5000 || many < 50 {
		t.Errorf("%d candidates, %d programs with many", candidates, many)
	}
}

// 18.4: the chapter's examples.
func TestExamples(t *testing.T) {
	var from [][]int
	for x := range allOf(t, sb(t)) {
		from = append(from, x.From)
		if f, e := cand.End(sb(t), x); len(from) == 1 && (e != api.OK || f != api.Final{N: 4, V: [api.MaxFinal]int64{0, 0, 1, 1}}) {
			t.Errorf("End of the first of SB: %v %d", f, e)
		}
	}
	if !slices.EqualFunc(from, [][]int{{-1, -1, -1, 1, -1, 0}, {-1, -1, -1, 1, -1, 2}, {-1, -1, -1, 4, -1, 0}, {-1, -1, -1, 4, -1, 2}}, slices.Equal) {
		t.Errorf("All(SB): %v", from)
	}
	for _, c := range []struct {
		p    api.Prog
		want int
	}{
		{of(t, "0:EBX=5", "LOCK CMPXCHG [x],EBX"), 1},
		{of(t, "", "LOCK XADD [x],EAX"), 1},
		{of(t, "", "MOV EAX,[x]; MOV [y],EAX", "MOV EAX,[y]; MOV [x],EAX"), 3},
		{of(t, "", "MOV [x],$1", "MOV [x],$2", "MOV [x],$3", "MOV [x],$4"), 24},
		{bare(3), 1},
		{of(t, "x=1", ""), 1},
		{of(t, "", "MFENCE"), 1},
	} {
		if n := len(slices.Collect(allOf(t, c.p))); n != c.want {
			t.Errorf("All(%v): %d; want %d", c.p, n, c.want)
		}
	}
}

// 18.4: orders, written out: the location that comes first changes last, and what is chosen for the reads changes after all orders.
func TestAllWritten(t *testing.T) {
	var got []api.Exec
	for x := range allOf(t, of(t, "", "MOV [x],$1; MOV [y],$1; MOV EAX,[x]", "MOV [y],$2; MOV [x],$2")) {
		got = append(got, x)
	}
	x := [][]int{{0, 2, 6}, {0, 6, 2}}
	y := [][]int{{1, 3, 5}, {1, 5, 3}}
	n := 0
	for _, from := range []int{0, 2, 6} {
		for _, a := range x {
			for _, b := range y {
				if n >= len(got) || got[n].From[4] != from || !slices.EqualFunc(got[n].Order, [][]int{a, b}, slices.Equal) {
					t.Fatalf("the candidate %d: %v", n, got)
				}
				n++
			}
		}
	}
	if n != len(got) {
		t.Errorf("%d candidates; want %d", len(got), n)
	}
}

// 18.4: by rising fails: the first try's number counts least.
func TestAllFails(t *testing.T) {
	p := of(t, "0:EAX=7; 0:EBX=7; 1:EAX=7; 1:EBX=7; 2:EAX=7; 2:EBX=7", "LOCK CMPXCHG [x],EBX; MFENCE", "LOCK CMPXCHG [x],EBX", "LOCK CMPXCHG [x],EBX")
	var l []api.Set
	for x := range allOf(t, p) {
		l = append(l, failsOf(p, x.Events))
	}
	if !slices.IsSorted(l) || !slices.Equal(slices.Compact(l), []api.Set{0, 1, 2, 3, 4, 5, 6, 7}) {
		t.Errorf("fails: %v", l)
	}
}

// 18.4, R7: left at any place, gone through again, and within itself.
func TestAllLeft(t *testing.T) {
	roll := dice(1842)
	for _, p := range smallProgs(t, roll, 150, 60) {
		want := says(p)
		it := allOf(t, p)
		for n := range len(want) + 1 {
			if got := texts(it, n); !slices.Equal(got, want[:n]) {
				t.Fatalf("the first %d of All(%v): %v; want %v", n, p, got, want[:n])
			}
		}
		outer := 0
		for x := range it {
			if say(x) != want[outer] {
				t.Fatalf("All(%v), %d: %v; want %s", p, outer, x, want[outer])
			}
			if outer%5 == 0 {
				if got := texts(it, 1<<30); !slices.Equal(got, want) {
					t.Fatalf("All(%v) within itself: %v; want %v", p, got, want)
				}
			}
			outer++
		}
		if outer != len(want) {
			t.Fatalf("All(%v): %d; want %d", p, outer, len(want))
		}
		next, stop := iter.Pull(it)
		if x, ok := next(); !ok || say(x) != want[0] {
			t.Fatalf("pulled of All(%v): %v %v", p, x, ok)
		}
		stop()
	}
}

// 18.4, 18.7, R4: each candidate is in memory of its own, whatever becomes of the others and of the program.
func TestAllMemory(t *testing.T) {
	roll := dice(1843)
	for _, q := range smallProgs(t, roll, 200, 100) {
		want := says(q)
		p := wide(q)
		before := whole(reflect.ValueOf(p))
		it := allOf(t, p)
		var kept []any
		for x := range it {
			kept = append(kept, x)
		}
		if after := whole(reflect.ValueOf(p)); after != before {
			t.Fatalf("All has changed the program: %s; it was %s", after, before)
		}
		apart(t, append([]any{p}, kept...)...)
		spoil(reflect.ValueOf(&p).Elem())
		n := 0
		for x := range it {
			if say(x) != want[n] || say(kept[n].(api.Exec)) != want[n] {
				t.Fatalf("the candidate %d of a program that has changed: %v; want %s", n, x, want[n])
			}
			spoil(reflect.ValueOf(&x).Elem())
			n++
		}
		if n != len(want) {
			t.Fatalf("%d candidates of a program that has changed; want %d", n, len(want))
		}
	}
}

// R5: many may go through at once.
func TestAllAtOnce(t *testing.T) {
	p := of(t, "0:EBX=1; 1:EBX=2", "LOCK CMPXCHG [x],EBX; MOV EAX,[x]", "LOCK CMPXCHG [x],EBX; XCHG [x],EBX")
	want := says(p)
	it := allOf(t, p)
	var all sync.WaitGroup
	for range 8 {
		all.Go(func() {
			if got := texts(it, 1<<30); !slices.Equal(got, want) {
				t.Errorf("All: %v; want %v", got, want)
			}
		})
	}
	all.Wait()
}

// 18.4: programs with very many candidates: the first ones are candidates, each behind the one ahead of it.
func TestAllGreat(t *testing.T) {
	for what, p := range greatProgs(t) {
		var last api.Exec
		n := 0
		for x := range allOf(t, p) {
			fails := failsOf(p, x.Events)
			if values, regs, ok := saysValues(p, fails, x.From); !ok || !slices.Equal(values, x.Values) || !slices.EqualFunc(regs, x.Regs, slices.Equal) {
				t.Fatalf("%s, %d: %v", what, n, x)
			}
			if was := failsOf(p, last.Events); n > 0 && (was > fails || was == fails && byChoices(last, x) >= 0) {
				t.Fatalf("%s, %d: %v behind %v", what, n, x, last)
			}
			if e := cand.Check(p, x); e != api.OK {
				t.Fatalf("%s, %d: Check: %d", what, n, e)
			}
			last = x
			if n++; n == 300 {
				break
			}
		}
		if n != 300 {
			t.Errorf("%s: %d candidates alone", what, n)
		}
	}
}

// failsOf is the tries whose instructions have no write.
func failsOf(p api.Prog, l []api.Event) api.Set {
	var fails api.Set
	try := 0
	for thread, ops := range p.Threads {
		for index, op := range ops {
			if op.Kind != api.OCmpxchg {
				continue
			}
			writes := slices.ContainsFunc(l, func(e api.Event) bool {
				return e.Thread == thread && e.Index == index && e.Kind == api.EWrite
			})
			if !writes {
				fails |= 1 << try
			}
			try++
		}
	}
	return fails
}
