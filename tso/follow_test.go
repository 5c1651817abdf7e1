package tso_test

import (
	"fmt"
	"maps"
	"math"
	"slices"
	"testing"

	"weir/api"
	"weir/cond"
	"weir/litmus"
	"weir/odo"
	"weir/prog"
	"weir/sc"
	"weir/tso"
)

// mostPicks is the bound of 12.5.
func mostPicks(p api.Prog) int {
	costs := map[int]int{
		api.OMovImm: 1, api.OMovReg: 1, api.OLoad: 1, api.OFence: 1, api.OStoreImm: 2, api.OStoreReg: 2, api.OXchg: 4, api.OCmpxchg: 4, api.OXadd: 4,
	}
	n := 0
	for _, l := range p.Threads {
		for _, op := range l {
			n += costs[op.Kind]
		}
	}
	return n
}

// walk goes through all states to which a machine can come, each by as many picks as it can be come to, and gathers the final states; false: there are too many.
func walk(t *testing.T, m api.Machine, picks, most int, visit func(text string, l []api.Pick)) (map[api.Final]int, bool) {
	t.Helper()
	ends, level, states := map[api.Final]int{}, map[string]int{m.Start: 1}, 0
	for depth := 0; len(level) > 0; depth++ {
		if states += len(level); states > most {
			return nil, false
		}
		next := map[string]int{}
		for text := range level {
			l := m.Picks(text)
			f, end := m.End(text)
			if end != (len(l) == 0) || depth > picks || depth == picks && !end {
				t.Fatalf("behind %d of %d picks: %v can be done, end %v", depth, picks, l, end)
			}
			if end {
				ends[f]++
			}
			for _, k := range l {
				behind, ok := m.Step(text, k)
				if !ok {
					t.Fatalf("the pick %v of %q can't be done", k, text)
				}
				next[behind]++
			}
			visit(text, l)
		}
		level = next
	}
	return ends, true
}

func ignore(string, []api.Pick) {}

// endsOf is the final states of a program's machine of x86-TSO.
func endsOf(t *testing.T, p api.Prog, most int) (map[api.Final]int, bool) {
	t.Helper()
	return walk(t, made(t, p), mostPicks(p), most, ignore)
}

// plainEnds is the final states of a program's machine of sequential consistency.
func plainEnds(t *testing.T, p api.Prog) map[api.Final]int {
	t.Helper()
	m, e := sc.New(p)
	if e != api.OK {
		t.Fatalf("sc.New: %d", e)
	}
	ends, _ := walk(t, m, mostPicks(p), math.MaxInt, ignore)
	return ends
}

func sameKeys(a, b map[api.Final]int) bool {
	return len(a) == len(b) && maps.EqualFunc(a, b, func(int, int) bool { return true })
}

// holdSight holds what threads see ahead of and behind a pick against 12.6.
func (w words) holdSight(t *testing.T, s api.State, k api.Pick) {
	t.Helper()
	next := behindAll(t, w.p, s, k)
	for i := range w.p.Threads {
		for loc := range w.p.Locs {
			was, _ := tso.See(w.p, s, i, loc)
			is, _ := tso.See(w.p, next, i, loc)
			if i != k.Thread && k.Kind == api.PStep && is != was {
				t.Fatalf("behind %v of %.300s thread %d sees %d; it saw %d", k, fmt.Sprint(s), i, is, was)
			}
			if i == k.Thread && k.Kind == api.PFlush && is != was {
				t.Fatalf("behind its own flush of %.300s thread %d sees %d; it saw %d", fmt.Sprint(s), i, is, was)
			}
		}
	}
	if k.Kind != api.PStep {
		return
	}
	op := w.p.Threads[k.Thread][s.PC[k.Thread]]
	if op.Kind != api.OStoreImm && op.Kind != api.OStoreReg {
		return
	}
	want := op.Imm
	if op.Kind == api.OStoreReg {
		want = s.Regs[k.Thread][op.Src]
	}
	if v, e := tso.See(w.p, next, k.Thread, op.Loc); v != want || e != api.OK {
		t.Fatalf("behind a store of %d in %.300s its thread sees %d, %d", want, fmt.Sprint(s), v, e)
	}
}

// 12.5, 12.6: all states to which unruly programs come: proper ones, none of them stuck, all at an end in time; what others see changes by flushes alone.
func TestFollows(t *testing.T) {
	roll := dice(125)
	progs := []api.Prog{sb(t), bare(1), bare(4), of(t, "0:EAX=1; 1:EAX=1; x=0", "LOCK XADD [x],EAX|LOCK XADD [x],EAX")}
	for range 300 {
		progs = append(progs, someProg(roll, 3, 3), busyProg(roll))
	}
	walked := 0
	for _, p := range progs {
		w := wordsOf(t, p)
		ends, ok := walk(t, made(t, p), mostPicks(p), 5000, func(text string, l []api.Pick) {
			s, e := sc.Read(p, text)
			if e != api.OK || !w.proper(s) {
				t.Fatalf("in %.300s one comes to %.300s, %d", fmt.Sprint(w.texts), fmt.Sprint(s), e)
			}
			for _, k := range l {
				w.holdSight(t, s, k)
			}
		})
		if ok && len(ends) == 0 {
			t.Fatalf("no final state of %.300s", fmt.Sprint(w.texts))
		}
		if ok {
			walked++
		}
	}
	if walked < 500 {
		t.Errorf("%d programs were gone through to their ends", walked)
	}
}

// 12.5, 12.6: the same of one step of unruly proper states, whether a run comes to them or not.
func TestFollowsAnywhere(t *testing.T) {
	roll := dice(1251)
	for range 4000 {
		w := wordsOf(t, someProg(roll, 4, 3))
		s := someProper(roll, w)
		l, _ := tso.Picks(w.p, s)
		for _, k := range l {
			w.holdSight(t, s, k)
			if next := behindAll(t, w.p, s, k); !w.proper(next) {
				t.Fatalf("behind %v of %.300s: %.300s", k, fmt.Sprint(s), fmt.Sprint(next))
			}
		}
	}
}

// 12.5: a program at all bounds, run to its end by unruly picks: no more picks than said, and just as many where none fails.
func TestLongRuns(t *testing.T) {
	roll := dice(1252)
	stores := of(t, "", "MOV [x],$1|MOV [y],$1")
	for i := range stores.Threads {
		stores.Threads[i] = slices.Repeat(stores.Threads[i], 31)
	}
	for _, p := range []api.Prog{fullest(), stores} {
		for range 20 {
			m := made(t, p)
			text, n := m.Start, 0
			for l := m.Picks(text); len(l) > 0; l = m.Picks(text) {
				text, _ = m.Step(text, pick(roll, l))
				n++
			}
			if _, end := m.End(text); !end || n != mostPicks(p) {
				t.Fatalf("behind %d of %d picks: %v", n, mostPicks(p), end)
			}
		}
	}
}

// atOnce is the final state when threads do their instructions in an order, each write flushed right behind its step.
func atOnce(t *testing.T, p api.Prog, order []int) api.Final {
	t.Helper()
	s := start(t, p)
	for _, i := range order {
		for at := s.PC[i]; s.PC[i] == at || len(s.Buf[i]) > 0; {
			k := stepOf(i)
			if len(s.Buf[i]) > 0 {
				k = flushOf(i)
			}
			s = behindAll(t, p, s, k)
		}
	}
	if ok, e := tso.Done(p, s); !ok || e != api.OK {
		t.Fatalf("behind %v: %v, %d", order, s, e)
	}
	return finalOf(s)
}

// 12.7: all weaves of unruly programs.
func TestPlainRuns(t *testing.T) {
	roll := dice(127)
	progs := []api.Prog{sb(t), of(t, "0:EAX=1; 1:EAX=1; x=0", "LOCK XADD [x],EAX|LOCK XADD [x],EAX; MOV [y],$1|LOCK CMPXCHG [y],EAX")}
	for range 200 {
		progs = append(progs, someProg(roll, 3, 3), busyProg(roll))
	}
	orders := 0
	for _, p := range progs {
		var lengths []int
		for _, l := range p.Threads {
			lengths = append(lengths, len(l))
		}
		weaves, e := odo.Weaves(lengths)
		if n, few := weaves.Len(); e != api.OK || few != api.OK || n > 1000 {
			continue
		}
		for order := range weaves.All() {
			orders++
			want, e := sc.Play(p, order)
			if f := atOnce(t, p, order); e != api.OK || f != want {
				t.Fatalf("the order %v of %.300s: %v; want %v", order, fmt.Sprint(p), f, want)
			}
		}
	}
	if orders < 10000 {
		t.Errorf("%d orders", orders)
	}
}

// fenced is a program with an OFence right behind each store.
func fenced(p api.Prog) api.Prog {
	p = evenProg(p)
	for i, l := range p.Threads {
		p.Threads[i] = nil
		for _, op := range l {
			p.Threads[i] = append(p.Threads[i], op)
			if op.Kind == api.OStoreImm || op.Kind == api.OStoreReg {
				p.Threads[i] = append(p.Threads[i], api.Op{Kind: api.OFence})
			}
		}
	}
	return p
}

// 12.7, 12.8: all final states of sequential consistency are come to, and, with fences behind the stores, no others.
func TestFences(t *testing.T) {
	roll := dice(128)
	progs := []api.Prog{sb(t)}
	for range 300 {
		progs = append(progs, someProg(roll, 3, 3), busyProg(roll))
	}
	walked, weaker := 0, 0
	for _, p := range progs {
		ends, ok := endsOf(t, p, 20000)
		tight, ok2 := endsOf(t, fenced(p), 20000)
		if !ok || !ok2 {
			continue
		}
		walked++
		plain := plainEnds(t, p)
		for f := range plain {
			if ends[f] == 0 {
				t.Fatalf("%.300s does not come to %v", fmt.Sprint(p), f)
			}
		}
		if !sameKeys(plain, ends) {
			weaker++
		}
		if !sameKeys(tight, plain) || !sameKeys(plainEnds(t, fenced(p)), plain) {
			t.Fatalf("%.300s with fences: %v; want %v", fmt.Sprint(p), tight, plain)
		}
	}
	if walked < 500 || weaker < 20 {
		t.Errorf("%d programs were gone through, %d of them come to more than sequential consistency allows", walked, weaker)
	}
}

// Well-known small tests (n4 to n6 after Owens, Sarkar and Sewell): whether the end can be come to, and, where it is not 0 here, how many final states there are.
func TestKnown(t *testing.T) {
	for _, c := range []struct {
		what, rows, cond string
		finals           int
		want             bool
	}{
		{"SB", "P0|P1; MOV [x],$1|MOV [y],$1; MOV EAX,[y]|MOV EAX,[x];", `0:EAX=0 /\ 1:EAX=0`, 4, true},
		{"SB, fences", "P0|P1; MOV [x],$1|MOV [y],$1; MFENCE|MFENCE; MOV EAX,[y]|MOV EAX,[x];", `0:EAX=0 /\ 1:EAX=0`, 3, false},
		{"SB, one fence", "P0|P1; MOV [x],$1|MOV [y],$1; MFENCE|MOV EAX,[x]; MOV EAX,[y]|;", `0:EAX=0 /\ 1:EAX=0`, 4, true},
		{"SB, own writes seen", "P0|P1; MOV [x],$1|MOV [y],$1; MOV EAX,[x]|MOV EAX,[y]; MOV EBX,[y]|MOV EBX,[x];", `0:EAX=1 /\ 0:EBX=0 /\ 1:EAX=1 /\ 1:EBX=0`, 4, true},
		{"SB, three threads", "P0|P1|P2; MOV [x],$1|MOV [y],$1|MOV [z],$1; MOV EAX,[y]|MOV EAX,[z]|MOV EAX,[x];", `0:EAX=0 /\ 1:EAX=0 /\ 2:EAX=0`, 8, true},
		{"SB, exchanges", "P0|P1; MOV EAX,$1|MOV EAX,$1; XCHG [x],EAX|XCHG [y],EAX; MOV EBX,[y]|MOV EBX,[x];", `0:EBX=0 /\ 1:EBX=0`, 3, false},
		{"SB, an exchange elsewhere", "P0|P1; MOV [x],$1|MOV [y],$1; XCHG [z],ECX|XCHG [z],ECX; MOV EAX,[y]|MOV EAX,[x];", `0:EAX=0 /\ 1:EAX=0`, 3, false},
		{"MP", "P0|P1; MOV [x],$1|MOV EAX,[y]; MOV [y],$1|MOV EBX,[x];", `1:EAX=1 /\ 1:EBX=0`, 3, false},
		{"LB", "P0|P1; MOV EAX,[x]|MOV EAX,[y]; MOV [y],$1|MOV [x],$1;", `0:EAX=1 /\ 1:EAX=1`, 3, false},
		{"S", "P0|P1; MOV [x],$2|MOV EAX,[y]; MOV [y],$1|MOV [x],$1;", `1:EAX=1 /\ x=2`, 3, false},
		{"R", "P0|P1; MOV [x],$1|MOV [y],$2; MOV [y],$1|MOV EAX,[x];", `y=2 /\ 1:EAX=0`, 4, true},
		{"2+2W", "P0|P1; MOV [x],$1|MOV [y],$1; MOV [y],$2|MOV [x],$2;", `x=1 /\ y=1`, 3, false},
		{"WRC", "P0|P1|P2; MOV [x],$1|MOV EAX,[x]|MOV EAX,[y]; |MOV [y],$1|MOV EBX,[x];", `1:EAX=1 /\ 2:EAX=1 /\ 2:EBX=0`, 7, false},
		{"IRIW", "P0|P1|P2|P3; MOV [x],$1|MOV [y],$1|MOV EAX,[x]|MOV EAX,[y]; ||MOV EBX,[y]|MOV EBX,[x];", `2:EAX=1 /\ 2:EBX=0 /\ 3:EAX=1 /\ 3:EBX=0`, 15, false},
		{"n4", "P0|P1; MOV EAX,[x]|MOV EAX,[x]; MOV [x],$1|MOV [x],$2;", `0:EAX=2 /\ 1:EAX=1`, 0, false},
		{"n5", "P0|P1; MOV [x],$1|MOV [x],$2; MOV EAX,[x]|MOV EAX,[x];", `0:EAX=2 /\ 1:EAX=1`, 0, false},
		{"n6", "P0|P1; MOV [x],$1|MOV [y],$2; MOV EAX,[x]|MOV [x],$2; MOV EBX,[y]|;", `0:EAX=1 /\ 0:EBX=0 /\ x=1`, 0, true},
		{"XADD", "P0|P1; MOV EAX,$1|MOV EAX,$1; LOCK XADD [x],EAX|LOCK XADD [x],EAX;", `~(x=2)`, 2, false},
		{"XADD, four", "P0|P1|P2|P3; MOV EAX,$1|MOV EAX,$1|MOV EAX,$1|MOV EAX,$1; LOCK XADD [x],EAX|LOCK XADD [x],EAX|LOCK XADD [x],EAX|LOCK XADD [x],EAX;", `~(x=4)`, 24, false},
		{"a lock is taken once", "P0|P1; MOV EBX,$1|MOV EBX,$1; LOCK CMPXCHG [x],EBX|LOCK CMPXCHG [x],EBX;", `0:EAX=1 /\ 1:EAX=1 \/ 0:EAX=0 /\ 1:EAX=0`, 2, false},
	} {
		x, err := litmus.Parse("X86 t { } " + c.rows + " exists (" + c.cond + ")")
		if err != nil {
			t.Fatalf("%s: %v", c.what, err)
		}
		p, e := prog.Of(x)
		if e != api.OK {
			t.Fatalf("%s: %d", c.what, e)
		}
		ends, _ := endsOf(t, p, math.MaxInt)
		found := false
		for f := range ends {
			ok, e := cond.Holds(x.Cond, func(r api.Ref) int64 {
				i, _ := prog.Index(p, r)
				return f.V[i]
			})
			found = found || ok && e == api.OK
		}
		if found != c.want || c.finals != 0 && len(ends) != c.finals {
			t.Errorf("%s: %v, %d final states; want %v, %d", c.what, found, len(ends), c.want, c.finals)
		}
	}
}
