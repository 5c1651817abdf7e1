package pso_test

import (
	"fmt"
	"math"
	"reflect"
	"slices"
	"testing"

	"weir/api"
	"weir/prog"
	"weir/pso"
)

func stepOf(i int) api.Pick { return api.Pick{Thread: i, Kind: api.PStep} }

func flushOf(i, loc int) api.Pick { return api.Pick{Thread: i, Kind: api.PFlush, Loc: loc} }

// behindAll is the state behind picks, all of which can be done.
func behindAll(t *testing.T, p api.Prog, s api.State, picks ...api.Pick) api.State {
	t.Helper()
	for _, k := range picks {
		next, e := pso.Step(p, s, k)
		if e != api.OK {
			t.Fatalf("Step %v of %.300s: %d", k, fmt.Sprint(s), e)
		}
		s = next
	}
	return s
}

// wantPicks asks for all that can be done in a state.
func wantPicks(t *testing.T, p api.Prog, s api.State, want ...api.Pick) {
	t.Helper()
	if l, e := pso.Picks(p, s); e != api.OK || !slices.Equal(l, want) {
		t.Errorf("Picks of %v: %v, %d; want %v", s, l, e, want)
	}
}

// 13.2: the chapter's example 1.
func TestExampleMP(t *testing.T) {
	p := mp(t)
	s := start(t, p)
	wantPicks(t, p, s, stepOf(0), stepOf(1))
	s = behindAll(t, p, s, stepOf(0))
	wantPicks(t, p, s, stepOf(0), flushOf(0, 0), stepOf(1))
	s = behindAll(t, p, s, stepOf(0))
	wantPicks(t, p, s, flushOf(0, 0), flushOf(0, 1), stepOf(1))
	s = behindAll(t, p, s, flushOf(0, 1), stepOf(1), stepOf(1))
	wantPicks(t, p, s, flushOf(0, 0))
	if ok, e := pso.Done(p, s); ok || e != api.OK {
		t.Errorf("done while a write waits: %v, %d", ok, e)
	}
	s = behindAll(t, p, s, flushOf(0, 0))
	wantPicks(t, p, s)
	want := api.State{PC: []int{2, 2}, Phase: []int{0, 0}, Regs: [][]int64{{}, {1, 0}}, Mem: []int64{1, 1}, Buf: make([][]api.Write, 2), Lock: -1}
	if ok, e := pso.Done(p, s); !ok || e != api.OK || !sameState(s, want) {
		t.Errorf("the end: %v, %v, %d", s, ok, e)
	}
}

// 13.2: where a write is put in, which one is seen, and which one a flush takes, written out.
func TestRows(t *testing.T) {
	p := of(t, "x=7; y=8; z=9", "MOV [z],$1; MOV [x],$2; MOV [y],$3; MOV [x],$4; MOV [z],$5; MOV [y],$6")
	s := start(t, p)
	for i, want := range [][]api.Write{
		{{Loc: 2, Value: 1}},
		{{Loc: 0, Value: 2}, {Loc: 2, Value: 1}},
		{{Loc: 0, Value: 2}, {Loc: 1, Value: 3}, {Loc: 2, Value: 1}},
		{{Loc: 0, Value: 2}, {Loc: 0, Value: 4}, {Loc: 1, Value: 3}, {Loc: 2, Value: 1}},
		{{Loc: 0, Value: 2}, {Loc: 0, Value: 4}, {Loc: 1, Value: 3}, {Loc: 2, Value: 1}, {Loc: 2, Value: 5}},
		{{Loc: 0, Value: 2}, {Loc: 0, Value: 4}, {Loc: 1, Value: 3}, {Loc: 1, Value: 6}, {Loc: 2, Value: 1}, {Loc: 2, Value: 5}},
	} {
		s = behindAll(t, p, s, stepOf(0))
		if !slices.Equal(s.Buf[0], want) {
			t.Fatalf("behind store %d: %v; want %v", i, s.Buf[0], want)
		}
	}
	for _, c := range []struct {
		loc  int
		mem  []int64
		left []int
	}{
		{2, []int64{7, 8, 1}, []int{0, 1, 2}},
		{0, []int64{2, 8, 1}, []int{0, 1, 2}},
		{2, []int64{2, 8, 5}, []int{0, 1}},
		{1, []int64{2, 3, 5}, []int{0, 1}},
		{0, []int64{4, 3, 5}, []int{1}},
		{1, []int64{4, 6, 5}, nil},
	} {
		s = behindAll(t, p, s, flushOf(0, c.loc))
		if !slices.Equal(s.Mem, c.mem) {
			t.Errorf("behind a flush of %d: %v; want %v", c.loc, s.Mem, c.mem)
		}
		var want []api.Pick
		for _, loc := range c.left {
			want = append(want, flushOf(0, loc))
		}
		wantPicks(t, p, s, want...)
		for loc, v := range []int64{4, 6, 5} {
			if got, e := pso.See(p, s, 0, loc); got != v || e != api.OK {
				t.Errorf("at %d the thread sees %d, %d; want %d", loc, got, e, v)
			}
		}
	}
}

// 13.2: what each instruction does at the end of its steps, written out: EAX is 1, EBX 2, x 3, y 1.
func TestWritten(t *testing.T) {
	step := stepOf(0)
	for _, c := range []struct {
		text  string
		picks []api.Pick
		want  []int64
	}{
		{"MOV EBX,$-7", []api.Pick{step}, []int64{1, -7, 3, 1}},
		{"MOV EBX,EAX", []api.Pick{step}, []int64{1, 1, 3, 1}},
		{"MOV EAX,[x]", []api.Pick{step}, []int64{3, 2, 3, 1}},
		{"MOV [x],$9", []api.Pick{step, flushOf(0, 0)}, []int64{1, 2, 9, 1}},
		{"MOV [y],EBX", []api.Pick{step, flushOf(0, 1)}, []int64{1, 2, 3, 2}},
		{"MFENCE", []api.Pick{step}, []int64{1, 2, 3, 1}},
		{"XCHG [x],EBX", []api.Pick{step, step, flushOf(0, 0), step}, []int64{1, 3, 2, 1}},
		{"XCHG [y],EBX", []api.Pick{step, step, flushOf(0, 1), step}, []int64{1, 1, 3, 2}},
		{"LOCK CMPXCHG [x],EBX", []api.Pick{step, step, step}, []int64{3, 2, 3, 1}},
		{"LOCK CMPXCHG [y],EBX", []api.Pick{step, step, flushOf(0, 1), step}, []int64{1, 2, 3, 2}},
		{"LOCK XADD [x],EBX", []api.Pick{step, step, flushOf(0, 0), step}, []int64{1, 3, 5, 1}},
	} {
		p := of(t, "0:EAX=1; 0:EBX=2; x=3; y=1", c.text)
		s := start(t, p)
		for i, k := range c.picks {
			if ok, _ := pso.Done(p, s); ok {
				t.Errorf("%s: done ahead of pick %d", c.text, i)
			}
			s = behindAll(t, p, s, k)
		}
		if ok, _ := pso.Done(p, s); !ok || !slices.Equal(append(slices.Clone(s.Regs[0]), s.Mem...), c.want) {
			t.Errorf("%s: %v; want %v", c.text, s, c.want)
		}
	}
}

// 13.2: who holds the lock flushes what it likes; others store, and neither load nor flush.
func TestLock(t *testing.T) {
	p := of(t, "0:EAX=7", "MOV [z],$1; XCHG [x],EAX", "MOV [y],$5; MOV [x],$6; MOV EBX,[x]")
	s := behindAll(t, p, start(t, p), stepOf(0), stepOf(1), stepOf(0))
	wantPicks(t, p, s, stepOf(0), flushOf(0, 2), stepOf(1))
	s = behindAll(t, p, s, stepOf(0), stepOf(1))
	if want := []api.Write{{Loc: 0, Value: 7}, {Loc: 2, Value: 1}}; s.Lock != 0 || !slices.Equal(s.Buf[0], want) {
		t.Errorf("behind the second step: %v", s)
	}
	wantPicks(t, p, s, flushOf(0, 0), flushOf(0, 2))
	s = behindAll(t, p, s, flushOf(0, 0))
	wantPicks(t, p, s, flushOf(0, 2))
	s = behindAll(t, p, s, flushOf(0, 2), stepOf(0))
	wantPicks(t, p, s, stepOf(1), flushOf(1, 0), flushOf(1, 1))
}

// 13.2: with 64 writes that wait, at all locations together, nothing more is written; all else goes on.
func TestFull(t *testing.T) {
	full := append(make([]api.Write, 40), slices.Repeat([]api.Write{{Loc: 1}}, 24)...)
	for text, want := range map[string][2]bool{ // with 64 writes, with 63
		"MOV [x],$1": {false, true}, "MOV [z],EBX": {false, true}, "XCHG [y],EAX": {false, true}, "LOCK XADD [z],EAX": {false, true},
		"LOCK CMPXCHG [z],EBX": {false, true}, "LOCK CMPXCHG [y],EBX": {true, true}, "MOV EAX,[z]": {true, true}, "MOV EAX,$1": {true, true}, "MFENCE": {false, false},
	} {
		p := of(t, "x=0; y=0; z=1; 0:EAX=1; 0:EBX=2", text)
		for less, can := range want {
			s := start(t, p)
			s.Buf[0] = full[less:]
			if atLocked(p, s, 0) {
				s.Lock, s.Phase[0] = 0, 1
			}
			l := []api.Pick{flushOf(0, 0), flushOf(0, 1)}
			if can {
				l = append([]api.Pick{stepOf(0)}, l...)
			}
			wantPicks(t, p, s, l...)
			if _, e := pso.Step(p, s, stepOf(0)); (e == api.OK) != can || !can && e != api.ErrPick {
				t.Errorf("%s with %d writes that wait: %d", text, 64-less, e)
			}
		}
	}
}

// 13.2: each instruction in each of its phases, with nothing, something and all that may wait, at lesser, own and greater locations.
func TestOneInstruction(t *testing.T) {
	values := []int64{0, 1, -1, math.MaxInt64, math.MinInt64}
	for _, text := range []string{
		"MOV EAX,$-7", "MOV EAX,EBX", "MOV EAX,[y]", "MOV [x],$5", "MOV [y],$5", "MOV [z],EBX", "MFENCE",
		"XCHG [x],EAX", "XCHG [y],EBX", "LOCK CMPXCHG [y],EBX", "LOCK CMPXCHG [z],EAX", "LOCK XADD [x],EAX", "LOCK XADD [y],EBX",
	} {
		p := of(t, "0:EAX=0; 0:EBX=0; x=0; y=0; z=0", text)
		for n := range 5 * 5 * 3 * 7 * 7 {
			a, b, phase, writes := values[n%5], values[n/5%5], n/25%3, []int{0, 1, 2, 3, 5, 63, 64}[n/75%7]
			locs := [][]int{{0}, {1}, {2}, {0, 1}, {0, 2}, {1, 2}, {0, 1, 2}}[n/525]
			s := api.State{PC: []int{0}, Phase: []int{phase}, Regs: [][]int64{{a, 1}}, Mem: []int64{b, 1, b}, Buf: make([][]api.Write, 1), Lock: -1}
			if phase != 0 {
				s.Lock = 0
			}
			for k := range writes {
				s.Buf[0] = append(s.Buf[0], api.Write{Loc: locs[k%len(locs)], Value: values[(n+k)%5]})
			}
			hold(t, p, ordered(s), nearPicks())
		}
	}
}

// 13.2: every PC, Phase and Lock of a program with all kinds of instructions, buffers in order and not.
func TestProper(t *testing.T) {
	p := of(t, "x=1; y=2", "MOV EAX,[x]; MOV [y],$1; MOV EAX,$1", "XCHG [x],EAX; LOCK CMPXCHG [y],EAX", "MFENCE; LOCK XADD [x],EAX; MOV [x],EAX")
	bufs := [][]api.Write{nil, {{Loc: 1, Value: 4}, {Loc: 1, Value: 5}}, {{Loc: 0, Value: 4}, {Loc: 1, Value: 5}}, {{Loc: 1, Value: 4}, {Loc: 0, Value: 5}}}
	proper := 0
	for n := range 4 * 3 * 4 * 4 * 27 * 4 {
		s := start(t, p)
		s.PC = []int{n % 4, n / 4 % 3, n / 12 % 4}
		s.Lock = n/48%4 - 1
		s.Phase = []int{n / 192 % 3, n / 576 % 3, n / 1728 % 3}
		s.Buf[n%3] = bufs[n/5184]
		if isProper(p, s) {
			proper++
		}
		hold(t, p, s, nearPicks())
	}
	if want := 3 * (48 + 2*(2*16) + 2*12); proper != want {
		t.Errorf("%d proper states; want %d", proper, want)
	}
}

// 13.2: in a state with one buffer that is not in order nothing can be done, and it is no end; threads see there what they see.
func TestNotInOrder(t *testing.T) {
	p := of(t, "x=5; y=6", "MOV [x],$1", "MOV [y],$2", "")
	for i := range 3 {
		s := start(t, p)
		s.PC = []int{1, 1, 0}
		s.Buf[i] = []api.Write{{Loc: 1, Value: 3}, {Loc: 0, Value: 4}, {Loc: 1, Value: 9}}
		wantPicks(t, p, s)
		for _, k := range somePicks() {
			if next, e := pso.Step(p, s, k); e != api.ErrPick || !sameState(next, api.State{}) {
				t.Errorf("Step %v of %v: %v, %d", k, s, next, e)
			}
		}
		if ok, e := pso.Done(p, s); ok || e != api.OK {
			t.Errorf("Done of %v: %v, %d", s, ok, e)
		}
		for loc, want := range []int64{4, 9} {
			if v, e := pso.See(p, s, i, loc); v != want || e != api.OK {
				t.Errorf("See %d of %v: %d, %d; want %d", loc, s, v, e, want)
			}
		}
	}
}

// 13.2: unruly states of unruly programs, proper and not, and of those at the bounds.
func TestUnruly(t *testing.T) {
	roll := dice(132)
	for _, p := range someProgs(t, roll, 300) {
		for range 6 {
			hold(t, p, someProper(roll, p), somePicks())
		}
		s := someState(roll, p)
		hold(t, p, s, somePicks())
		hold(t, p, ordered(s), somePicks())
		clear(s.Phase)
		s.Lock = -1
		hold(t, p, s, somePicks())
		s = someProper(roll, p)
		for i, l := range p.Threads {
			s.PC[i], s.Phase[i] = len(l), 0
			s.Buf[i] = s.Buf[i][:min(len(s.Buf[i]), roll(2))]
		}
		s.Lock = -1
		hold(t, p, s, somePicks())
	}
}

// 13.2: threads and locations that there are not.
func TestSeeRange(t *testing.T) {
	for _, p := range []api.Prog{mp(t), all(t), bare(1), fullest()} {
		s := start(t, p)
		for _, i := range []int{math.MinInt, -1, 0, 1, 2, 3, 4, math.MaxInt} {
			for _, loc := range []int{math.MinInt, -1, 0, 1, 2, 3, 15, 16, math.MaxInt} {
				v, e := pso.See(p, s, i, loc)
				if i >= 0 && i < len(p.Threads) && loc >= 0 && loc < len(p.Locs) {
					if v != p.LocInit[loc] || e != api.OK {
						t.Errorf("See %d %d: %d, %d", i, loc, v, e)
					}
				} else if v != 0 || e != api.ErrRange {
					t.Errorf("See %d %d: %d, %d; want ErrRange", i, loc, v, e)
				}
			}
		}
	}
}

// refuses asks all calls of a program and a state for one error, whatever else they are given.
func refuses(t *testing.T, what string, p api.Prog, s api.State, want api.Errno) {
	t.Helper()
	if l, e := pso.Picks(p, s); len(l) != 0 || e != want {
		t.Errorf("Picks with %s: %v, %d; want %d", what, l, e, want)
	}
	if ok, e := pso.Done(p, s); ok || e != want {
		t.Errorf("Done with %s: %v, %d; want %d", what, ok, e, want)
	}
	for _, n := range []int{-1, 0, 2, 9} {
		if v, e := pso.See(p, s, n, n); v != 0 || e != want {
			t.Errorf("See with %s: %v, %d; want %d", what, v, e, want)
		}
		for _, kind := range []int{0, api.PStep, api.PFlush} {
			next, e := pso.Step(p, s, api.Pick{Thread: n, Kind: kind, Loc: n / 2})
			if !sameState(next, api.State{}) || e != want {
				t.Errorf("Step with %s: %v, %d; want %d", what, next, e, want)
			}
		}
	}
}

// 13.1: a program that is not right, of all calls, ahead of all else.
func TestWrongPrograms(t *testing.T) {
	seen := map[api.Errno]int{}
	for what, p := range wrongProgs(t) {
		want := prog.Valid(p)
		seen[want]++
		for _, s := range []api.State{{}, {Lock: -1}, start(t, all(t)), start(t, mp(t))} {
			refuses(t, what, p, s, want)
		}
		if m, e := pso.New(p); e != want || !reflect.DeepEqual(m, api.Machine{}) {
			t.Errorf("New with %s: %d; want %d", what, e, want)
		}
	}
	for _, e := range []api.Errno{api.ErrThreads, api.ErrReg, api.ErrRegisters, api.ErrName, api.ErrLocs, api.ErrOp, api.ErrEvents} {
		if seen[e] == 0 {
			t.Errorf("no program is refused with %d", e)
		}
	}
	if seen[api.OK] != 0 {
		t.Errorf("%d of the wrong programs are right", seen[api.OK])
	}
}

// 13.1: a state that is none of the program, of all calls that are given one, ahead of what else is wrong.
func TestWrongStates(t *testing.T) {
	p, roll := all(t), dice(131)
	for range 10 {
		for what, turn := range twists() {
			s := wide(someState(roll, p))
			turn(&s)
			refuses(t, what, p, s, api.ErrState)
		}
	}
	refuses(t, "another program's state", p, start(t, mp(t)), api.ErrState)
	refuses(t, "another program's state", mp(t), start(t, p), api.ErrState)
}

// R4: what is handed in is not changed, in its spare room neither; what is handed out is new.
func TestMemory(t *testing.T) {
	roll := dice(134)
	taken := 0
	for range 300 {
		p := wide(someProg(t, roll, 4, 3))
		s := wide(someProper(roll, p))
		before := whole(reflect.ValueOf(p)) + whole(reflect.ValueOf(s))
		l, _ := pso.Picks(p, s)
		again, _ := pso.Picks(p, s)
		apart(t, l, again, p, s)
		for _, k := range l {
			a, _ := pso.Step(p, s, k)
			b, _ := pso.Step(p, s, k)
			apart(t, a, b, p, s)
			taken++
		}
		for i := range p.Threads {
			for loc := range p.Locs {
				pso.See(p, s, i, loc)
			}
		}
		pso.Done(p, s)
		pso.New(p)
		if after := whole(reflect.ValueOf(p)) + whole(reflect.ValueOf(s)); after != before {
			t.Fatalf("arguments have changed: %s; they were %s", after, before)
		}
	}
	if taken < 300 {
		t.Errorf("%d steps", taken)
	}
}

// R4: lists that share memory where they are handed in do not where they are handed out.
func TestSharedState(t *testing.T) {
	p := of(t, "0:EAX=0; 1:EAX=0; 0:EBX=0; 1:EBX=0", "MOV EAX,$1; MOV [x],$3", "MOV [x],$2; XCHG [y],EBX")
	regs, buf, numbers := []int64{5, 6}, []api.Write{{Value: 8}, {Loc: 1, Value: 9}, {Loc: 1, Value: 7}}, []int{0, 0}
	s := api.State{PC: numbers, Phase: numbers, Regs: [][]int64{regs, regs}, Mem: regs, Buf: [][]api.Write{buf[:2], buf[1:]}, Lock: -1}
	hold(t, p, s, somePicks())
	for _, k := range []api.Pick{stepOf(0), stepOf(1), flushOf(0, 0), flushOf(0, 1), flushOf(1, 1)} {
		apart(t, behindAll(t, p, s, k), p, s)
	}
	apart(t, pso.Sorted(s), s)
	if !slices.Equal(regs, []int64{5, 6}) || !slices.Equal(buf, []api.Write{{Value: 8}, {Loc: 1, Value: 9}, {Loc: 1, Value: 7}}) || !slices.Equal(numbers, []int{0, 0}) {
		t.Errorf("arguments have changed: %v %v %v", regs, buf, numbers)
	}
}
