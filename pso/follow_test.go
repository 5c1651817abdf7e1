package pso_test

import (
	"fmt"
	"maps"
	"math"
	"slices"
	"testing"

	"weir/api"
	"weir/cond"
	"weir/litmus"
	"weir/prog"
	"weir/pso"
	"weir/sc"
	"weir/tso"
)

// walk goes through all states to which a machine can come, and gathers the final states; false: there are more than most.
func walk(t *testing.T, m api.Machine, most int, visit func(text string, l []api.Pick)) (map[api.Final]int, bool) {
	t.Helper()
	ends, seen, wait := map[api.Final]int{}, map[string]int{m.Start: 1}, []string{m.Start}
	for len(wait) > 0 {
		text := wait[len(wait)-1]
		wait = wait[:len(wait)-1]
		l := m.Picks(text)
		f, end := m.End(text)
		if end != (len(l) == 0) {
			t.Fatalf("at %q %v can be done, end %v", text, l, end)
		}
		if end {
			ends[f]++
		}
		for _, k := range l {
			next, ok := m.Step(text, k)
			if !ok {
				t.Fatalf("the pick %v of %q can't be done", k, text)
			}
			if seen[next]++; seen[next] == 1 {
				wait = append(wait, next)
			}
		}
		if len(seen) > most {
			return nil, false
		}
		visit(text, l)
	}
	return ends, true
}

// endsOf is the final states of a machine that was made of a program.
func endsOf(t *testing.T, make func(api.Prog) (api.Machine, api.Errno), p api.Prog, most int) (map[api.Final]int, bool) {
	t.Helper()
	m, e := make(p)
	if e != api.OK {
		t.Fatalf("no machine of %.300s: %d", fmt.Sprint(p), e)
	}
	return walk(t, m, most, func(string, []api.Pick) {})
}

func sameKeys(a, b map[api.Final]int) bool {
	return maps.EqualFunc(a, b, func(int, int) bool { return true })
}

// within tells whether all keys of a are keys of b.
func within(a, b map[api.Final]int) bool {
	for f := range a {
		if b[f] == 0 {
			return false
		}
	}
	return true
}

// unrulyProgs is small programs, unruly and busy ones.
func unrulyProgs(t *testing.T, roll func(int) int, n int) []api.Prog {
	t.Helper()
	l := []api.Prog{mp(t), bare(1), bare(4)}
	for range n {
		l = append(l, someProg(t, roll, 3, 3), busyProg(t, roll))
	}
	return l
}

// 13.5: all states to which unruly programs come are proper, and none is stuck.
func TestFollows(t *testing.T) {
	roll := dice(135)
	walked := 0
	for _, p := range unrulyProgs(t, roll, 200) {
		ends, ok := walk(t, made(t, p), 5000, func(text string, l []api.Pick) {
			if s, e := sc.Read(p, text); e != api.OK || !isProper(p, s) {
				t.Fatalf("in %.300s one comes to %.300s, %d", fmt.Sprint(p), fmt.Sprint(s), e)
			}
		})
		if ok && len(ends) == 0 {
			t.Fatalf("no final state of %.300s", fmt.Sprint(p))
		}
		if ok {
			walked++
		}
	}
	if walked < 300 {
		t.Errorf("%d programs were gone through to their ends", walked)
	}
}

// 13.5: one step of unruly proper states leads to proper ones, whether a run comes to them or not.
func TestFollowsAnywhere(t *testing.T) {
	roll := dice(1351)
	steps := 0
	for _, p := range someProgs(t, roll, 1000) {
		s := someProper(roll, p)
		l, _ := pso.Picks(p, s)
		for _, k := range l {
			steps++
			if next := behindAll(t, p, s, k); !isProper(p, next) {
				t.Fatalf("behind %v of %.300s: %.300s", k, fmt.Sprint(s), fmt.Sprint(next))
			}
		}
	}
	if steps < 2000 {
		t.Errorf("%d steps", steps)
	}
}

// 13.5: long programs, run to their ends by unruly picks.
func TestLongRuns(t *testing.T) {
	roll := dice(1352)
	stores := of(t, "", "MOV [x],$1; MOV [y],$1", "MOV [y],$2; MOV [x],$2")
	for i := range stores.Threads {
		stores.Threads[i] = slices.Repeat(stores.Threads[i], 15)
	}
	for picks, p := range map[int]api.Prog{4 * (6*2 + 3*4): fullest(), 2 * 30 * 2: stores} {
		m := made(t, p)
		for range 40 {
			text, n := m.Start, 0
			for l := m.Picks(text); len(l) > 0; l = m.Picks(text) {
				text, _ = m.Step(text, pick(roll, l))
				n++
			}
			if _, end := m.End(text); !end || n != picks {
				t.Fatalf("behind %d of %d picks: %v", n, picks, end)
			}
		}
	}
}

// named is the pick by which this machine does what x86-TSO does by k.
func named(s api.State, k api.Pick) api.Pick {
	if k.Kind == api.PFlush {
		k.Loc = s.Buf[k.Thread][0].Loc
	}
	return k
}

// 13.5: each run of x86-TSO, step by step: unruly programs in all their states, and great ones by unruly picks.
func TestRunsOfTSO(t *testing.T) {
	roll := dice(1353)
	follow := func(p api.Prog, s, weak api.State, k api.Pick) (api.State, api.State) {
		next, e := tso.Step(p, s, k)
		if e != api.OK {
			t.Fatalf("x86-TSO does not do %v of %.300s", k, fmt.Sprint(s))
		}
		weak = behindAll(t, p, weak, named(s, k))
		if !sameState(weak, ordered(next)) || !sameState(weak, pso.Sorted(next)) {
			t.Fatalf("behind %v of %.300s: %.300s; want %.300s in order", k, fmt.Sprint(s), fmt.Sprint(weak), fmt.Sprint(next))
		}
		return next, weak
	}
	walked, others := 0, 0
	for _, p := range unrulyProgs(t, roll, 150) {
		m, _ := tso.New(p)
		_, ok := walk(t, m, 3000, func(text string, l []api.Pick) {
			s, _ := sc.Read(p, text)
			for _, k := range l {
				if named(s, k) != k {
					others++
				}
				follow(p, s, pso.Sorted(s), k)
			}
		})
		if ok {
			walked++
		}
	}
	if walked < 200 || others < 1000 {
		t.Errorf("%d programs were gone through, with %d flushes of other locations than 0", walked, others)
	}
	for range 50 {
		p := pick(roll, []api.Prog{fullest(), all(t)})
		s := start(t, p)
		weak := s
		for l, _ := tso.Picks(p, s); len(l) > 0; l, _ = tso.Picks(p, s) {
			s, weak = follow(p, s, weak, pick(roll, l))
		}
		if ok, e := pso.Done(p, weak); !ok || e != api.OK {
			t.Fatalf("x86-TSO is done, and %.300s is not: %d", fmt.Sprint(weak), e)
		}
	}
}

// fenced is a program with an OFence right behind each store.
func fenced(p api.Prog) api.Prog {
	p = wide(p)
	for i, l := range p.Threads {
		p.Threads[i] = nil
		for _, op := range l {
			p.Threads[i] = append(p.Threads[i], op)
			if op.Kind == api.OStoreImm || op.Kind == api.OStoreReg {
				p.Threads[i] = append(p.Threads[i], api.Op{Kind: api.OFence})
			}
		}
	}
	return p
}

// 13.5: all final states of x86-TSO are come to, and, with fences behind the stores, those of sequential consistency alone.
func TestFences(t *testing.T) {
	roll := dice(1354)
	walked, weaker := 0, 0
	for _, p := range unrulyProgs(t, roll, 400) {
		ends, ok := endsOf(t, pso.New, p, 20000)
		tight, ok2 := endsOf(t, pso.New, fenced(p), 20000)
		if !ok || !ok2 {
			continue
		}
		walked++
		plain, _ := endsOf(t, sc.New, p, math.MaxInt)
		buffered, _ := endsOf(t, tso.New, p, math.MaxInt)
		if !within(plain, buffered) || !within(buffered, ends) {
			t.Fatalf("%.300s does not come to all that stronger models come to", fmt.Sprint(p))
		}
		if !sameKeys(buffered, ends) {
			weaker++
		}
		if !sameKeys(tight, plain) {
			t.Fatalf("%.300s with fences: %v; want %v", fmt.Sprint(p), tight, plain)
		}
	}
	if walked < 600 || weaker < 20 {
		t.Errorf("%d programs were gone through, %d of them come to more than x86-TSO allows", walked, weaker)
	}
}

// Well-known small tests: whether the end can be come to, and, where it is not 0 here, how many final states there are.
func TestKnown(t *testing.T) {
	for _, c := range []struct {
		what, rows, cond string
		finals           int
		want             bool
	}{
		{"SB", "P0|P1; MOV [x],$1|MOV [y],$1; MOV EAX,[y]|MOV EAX,[x];", `0:EAX=0 /\ 1:EAX=0`, 4, true},
		{"SB, fences", "P0|P1; MOV [x],$1|MOV [y],$1; MFENCE|MFENCE; MOV EAX,[y]|MOV EAX,[x];", `0:EAX=0 /\ 1:EAX=0`, 3, false},
		{"SB, exchanges", "P0|P1; MOV EAX,$1|MOV EAX,$1; XCHG [x],EAX|XCHG [y],EAX; MOV EBX,[y]|MOV EBX,[x];", `0:EBX=0 /\ 1:EBX=0`, 3, false},
		{"MP", "P0|P1; MOV [x],$1|MOV EAX,[y]; MOV [y],$1|MOV EBX,[x];", `1:EAX=1 /\ 1:EBX=0`, 4, true},
		{"MP, y first", "P0|P1; MOV [y],$1|MOV EAX,[x]; MOV [x],$1|MOV EBX,[y];", `1:EAX=1 /\ 1:EBX=0`, 4, true},
		{"MP, a fence", "P0|P1; MOV [x],$1|MOV EAX,[y]; MFENCE|MOV EBX,[x]; MOV [y],$1|;", `1:EAX=1 /\ 1:EBX=0`, 3, false},
		{"MP, an exchange", "P0|P1; MOV [x],$1|MOV EBX,[y]; MOV EAX,$1|MOV ECX,[x]; XCHG [y],EAX|;", `1:EBX=1 /\ 1:ECX=0`, 3, false},
		{"MP, a fence of the reader", "P0|P1; MOV [x],$1|MOV EAX,[y]; MOV [y],$1|MFENCE; |MOV EBX,[x];", `1:EAX=1 /\ 1:EBX=0`, 4, true},
		{"LB", "P0|P1; MOV EAX,[x]|MOV EAX,[y]; MOV [y],$1|MOV [x],$1;", `0:EAX=1 /\ 1:EAX=1`, 3, false},
		{"S", "P0|P1; MOV [x],$2|MOV EAX,[y]; MOV [y],$1|MOV [x],$1;", `1:EAX=1 /\ x=2`, 4, true},
		{"R", "P0|P1; MOV [x],$1|MOV [y],$2; MOV [y],$1|MOV EAX,[x];", `y=2 /\ 1:EAX=0`, 4, true},
		{"R, a fence of the reader", "P0|P1; MOV [x],$1|MOV [y],$2; MOV [y],$1|MFENCE; |MOV EAX,[x];", `y=2 /\ 1:EAX=0`, 4, true},
		{"R, fences", "P0|P1; MOV [x],$1|MOV [y],$2; MFENCE|MFENCE; MOV [y],$1|MOV EAX,[x];", `y=2 /\ 1:EAX=0`, 3, false},
		{"2+2W", "P0|P1; MOV [x],$1|MOV [y],$1; MOV [y],$2|MOV [x],$2;", `x=1 /\ y=1`, 4, true},
		{"2+2W, fences", "P0|P1; MOV [x],$1|MOV [y],$1; MFENCE|MFENCE; MOV [y],$2|MOV [x],$2;", `x=1 /\ y=1`, 3, false},
		{"WRC", "P0|P1|P2; MOV [x],$1|MOV EAX,[x]|MOV EAX,[y]; |MOV [y],$1|MOV EBX,[x];", `1:EAX=1 /\ 2:EAX=1 /\ 2:EBX=0`, 7, false},
		{"IRIW", "P0|P1|P2|P3; MOV [x],$1|MOV [y],$1|MOV EAX,[x]|MOV EAX,[y]; ||MOV EBX,[y]|MOV EBX,[x];", `2:EAX=1 /\ 2:EBX=0 /\ 3:EAX=1 /\ 3:EBX=0`, 15, false},
		{"one location's order", "P0|P1; MOV [x],$1|MOV EAX,[x]; MOV [x],$2|MOV EBX,[x];", `1:EAX=2 /\ ~(1:EBX=2) \/ 1:EBX=1 /\ 1:EAX=2 \/ x=1`, 6, false},
		{"n4", "P0|P1; MOV EAX,[x]|MOV EAX,[x]; MOV [x],$1|MOV [x],$2;", `0:EAX=2 /\ 1:EAX=1`, 0, false},
		{"n5", "P0|P1; MOV [x],$1|MOV [x],$2; MOV EAX,[x]|MOV EAX,[x];", `0:EAX=2 /\ 1:EAX=1`, 0, false},
		{"n6", "P0|P1; MOV [x],$1|MOV [y],$2; MOV EAX,[x]|MOV [x],$2; MOV EBX,[y]|;", `0:EAX=1 /\ 0:EBX=0 /\ x=1`, 0, true},
		{"XADD", "P0|P1; MOV EAX,$1|MOV EAX,$1; LOCK XADD [x],EAX|LOCK XADD [x],EAX;", `~(x=2)`, 2, false},
		{"a lock is taken once", "P0|P1; MOV EBX,$1|MOV EBX,$1; LOCK CMPXCHG [x],EBX|LOCK CMPXCHG [x],EBX;", `0:EAX=1 /\ 1:EAX=1 \/ 0:EAX=0 /\ 1:EAX=0`, 2, false},
	} {
		x, err := litmus.Parse("X86 t { } " + c.rows + " exists (" + c.cond + ")")
		if err != nil {
			t.Fatalf("%s: %v", c.what, err)
		}
		p, e := prog.Of(x)
		if e != api.OK {
			t.Fatalf("%s: %d", c.what, e)
		}
		ends, _ := endsOf(t, pso.New, p, math.MaxInt)
		found := false
		for f := range ends {
			ok, e := cond.Holds(x.Cond, func(r api.Ref) int64 {
				i, _ := prog.Index(p, r)
				return f.V[i]
			})
			found = found || ok && e == api.OK
		}
		if found != c.want || c.finals != 0 && len(ends) != c.finals {
			t.Errorf("%s: %v, %d final states; want %v, %d", c.what, found, len(ends), c.want, c.finals)
		}
	}
}
