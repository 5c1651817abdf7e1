package tso_test

import (
	"fmt"
	"math"
	"reflect"
	"slices"
	"testing"

	"weir/api"
	"weir/prog"
	"weir/tso"
)

func stepOf(i int) api.Pick { return api.Pick{Thread: i, Kind: api.PStep} }

func flushOf(i int) api.Pick { return api.Pick{Thread: i, Kind: api.PFlush} }

// behindAll is the state behind picks, all of which can be done.
func behindAll(t *testing.T, p api.Prog, s api.State, picks ...api.Pick) api.State {
	t.Helper()
	for _, k := range picks {
		next, e := tso.Step(p, s, k)
		if e != api.OK {
			t.Fatalf("Step %v of %v: %d", k, s, e)
		}
		s = next
	}
	return s
}

// wantPicks asks for all that can be done in a state.
func wantPicks(t *testing.T, p api.Prog, s api.State, want ...api.Pick) {
	t.Helper()
	if l, e := tso.Picks(p, s); e != api.OK || !slices.Equal(l, want) {
		t.Errorf("Picks of %v: %v, %d; want %v", s, l, e, want)
	}
}

// 12.2: the chapter's examples 1 and 2.
func TestExampleSB(t *testing.T) {
	p := sb(t)
	s := start(t, p)
	wantPicks(t, p, s, stepOf(0), stepOf(1))
	s = behindAll(t, p, s, stepOf(0))
	wantPicks(t, p, s, stepOf(0), flushOf(0), stepOf(1))
	for i, want := range []int64{1, 0} {
		if v, e := tso.See(p, s, i, 0); v != want || e != api.OK {
			t.Errorf("thread %d sees %d, %d; want %d", i, v, e, want)
		}
	}
	s = behindAll(t, p, s, stepOf(1), stepOf(0), stepOf(1))
	wantPicks(t, p, s, flushOf(0), flushOf(1))
	if ok, e := tso.Done(p, s); ok || e != api.OK {
		t.Errorf("done while writes wait: %v, %d", ok, e)
	}
	s = behindAll(t, p, s, flushOf(0), flushOf(1))
	wantPicks(t, p, s)
	want := api.State{PC: []int{2, 2}, Phase: []int{0, 0}, Regs: [][]int64{{0}, {0}}, Mem: []int64{1, 1}, Buf: make([][]api.Write, 2), Lock: -1}
	if ok, e := tso.Done(p, s); !ok || e != api.OK || !sameState(s, want) {
		t.Errorf("the end: %v, %v, %d", s, ok, e)
	}
}

// 12.2: the chapter's example 3.
func TestExampleXchg(t *testing.T) {
	p := of(t, "0:EAX=7", "XCHG [x],EAX|MOV [x],$5; |MOV EBX,[x]")
	s := behindAll(t, p, start(t, p), stepOf(0))
	if s.Lock != 0 || s.Phase[0] != 1 || s.PC[0] != 0 || s.Regs[0][0] != 7 {
		t.Errorf("behind the first step: %v", s)
	}
	wantPicks(t, p, s, stepOf(0), stepOf(1))
	s = behindAll(t, p, s, stepOf(0))
	if s.Phase[0] != 2 || s.Regs[0][0] != 0 || s.Mem[0] != 0 || !slices.Equal(s.Buf[0], []api.Write{{Value: 7}}) {
		t.Errorf("behind the second step: %v", s)
	}
	wantPicks(t, p, s, flushOf(0), stepOf(1))
	s = behindAll(t, p, s, stepOf(1))
	wantPicks(t, p, s, flushOf(0))
	s = behindAll(t, p, s, flushOf(0))
	wantPicks(t, p, s, stepOf(0))
	s = behindAll(t, p, s, stepOf(0))
	if s.Lock != -1 || s.Phase[0] != 0 || s.PC[0] != 1 || s.Mem[0] != 7 {
		t.Errorf("behind the last step: %v", s)
	}
	wantPicks(t, p, s, stepOf(1), flushOf(1))
}

// 12.2: the chapter's example 4.
func TestExampleCmpxchg(t *testing.T) {
	p := of(t, "0:EAX=1; 0:EBX=9", "LOCK CMPXCHG [x],EBX")
	s := behindAll(t, p, start(t, p), stepOf(0), stepOf(0))
	if s.Regs[0][0] != 0 || len(s.Buf[0]) != 0 || s.Phase[0] != 2 {
		t.Errorf("behind the second step: %v", s)
	}
	s = behindAll(t, p, s, stepOf(0))
	if ok, e := tso.Done(p, s); !ok || e != api.OK || s.Mem[0] != 0 || s.Regs[0][1] != 9 {
		t.Errorf("the end: %v, %v, %d", s, ok, e)
	}
}

// 12.2: what each instruction does at the end of its steps, written out: EAX is 1, EBX 2, x 3, y 1.
func TestWritten(t *testing.T) {
	for _, c := range []struct {
		text  string
		picks []api.Pick
		want  []int64
	}{
		{"MOV EBX,$-7", []api.Pick{stepOf(0)}, []int64{1, -7, 3, 1}},
		{"MOV EBX,EAX", []api.Pick{stepOf(0)}, []int64{1, 1, 3, 1}},
		{"MOV EAX,[x]", []api.Pick{stepOf(0)}, []int64{3, 2, 3, 1}},
		{"MOV [x],$9", []api.Pick{stepOf(0), flushOf(0)}, []int64{1, 2, 9, 1}},
		{"MOV [y],EBX", []api.Pick{stepOf(0), flushOf(0)}, []int64{1, 2, 3, 2}},
		{"MFENCE", []api.Pick{stepOf(0)}, []int64{1, 2, 3, 1}},
		{"XCHG [x],EBX", []api.Pick{stepOf(0), stepOf(0), flushOf(0), stepOf(0)}, []int64{1, 3, 2, 1}},
		{"LOCK CMPXCHG [x],EBX", []api.Pick{stepOf(0), stepOf(0), stepOf(0)}, []int64{3, 2, 3, 1}},
		{"LOCK CMPXCHG [y],EBX", []api.Pick{stepOf(0), stepOf(0), flushOf(0), stepOf(0)}, []int64{1, 2, 3, 2}},
		{"LOCK XADD [x],EBX", []api.Pick{stepOf(0), stepOf(0), flushOf(0), stepOf(0)}, []int64{1, 3, 5, 1}},
	} {
		p := of(t, "0:EAX=1; 0:EBX=2; x=3; y=1", c.text)
		s := start(t, p)
		for i, k := range c.picks {
			if ok, _ := tso.Done(p, s); ok {
				t.Errorf("%s: done ahead of pick %d", c.text, i)
			}
			s = behindAll(t, p, s, k)
		}
		if ok, _ := tso.Done(p, s); !ok || !slices.Equal(append(slices.Clone(s.Regs[0]), s.Mem...), c.want) {
			t.Errorf("%s: %v; want %v", c.text, s, c.want)
		}
	}
}

// 12.2: the newest own write is seen, the oldest one is flushed.
func TestBufferOrder(t *testing.T) {
	p := of(t, "x=5; y=6", "MOV [x],$1|MOV EAX,[x]; MOV [y],$2|MOV EAX,[y]; MOV [x],$3| ")
	s := behindAll(t, p, start(t, p), stepOf(0), stepOf(0), stepOf(0))
	for n, want := range [][4]int64{{3, 2, 5, 6}, {3, 2, 1, 6}, {3, 2, 1, 2}, {3, 2, 3, 2}} {
		if n > 0 {
			s = behindAll(t, p, s, flushOf(0))
		}
		for i, v := range want {
			if got, e := tso.See(p, s, i/2, i%2); got != v || e != api.OK {
				t.Errorf("behind %d flushes thread %d sees %d at %d; want %d", n, i/2, got, i%2, v)
			}
		}
	}
}

// 12.2: each instruction over values at the ends, in each of its phases, with nothing, something and all that may wait.
func TestOneInstruction(t *testing.T) {
	values := []int64{0, 1, -1, math.MaxInt64, math.MinInt64}
	for _, text := range []string{
		"MOV EAX,$-7", "MOV EAX,EBX", "MOV EBX,EBX", "MOV EAX,[x]", "MOV EBX,[y]", "MOV [x],$5", "MOV [y],EBX", "MFENCE",
		"XCHG [x],EAX", "XCHG [y],EBX", "LOCK CMPXCHG [x],EBX", "LOCK CMPXCHG [x],EAX", "LOCK XADD [x],EAX", "LOCK XADD [y],EBX",
	} {
		w := wordsOf(t, of(t, "0:EAX=0; 0:EBX=0; x=0; y=0", text))
		for n := range 5 * 5 * 5 * 5 * 3 {
			a, b, x, writes := values[n%5], values[n/5%5], values[n/25%5], []int{0, 1, 2, 63, 64}[n/125%5]
			s := api.State{PC: []int{0}, Phase: []int{n / 625}, Regs: [][]int64{{a, b}}, Mem: []int64{x, 7}, Buf: make([][]api.Write, 1), Lock: -1}
			if s.Phase[0] != 0 {
				s.Lock = 0
			}
			for k := range writes {
				s.Buf[0] = append(s.Buf[0], api.Write{Loc: 1 - k%2, Value: values[(n+k)%5]})
			}
			w.hold(t, s, nearPicks())
		}
	}
}

// 12.2: every PC, Phase and Lock of a program with all kinds of instructions.
func TestProper(t *testing.T) {
	w := wordsOf(t, of(t, "x=1", `
		MOV EAX,[x]|XCHG [x],EAX        |MFENCE           ;
		MOV [x],$1 |LOCK CMPXCHG [x],EAX|LOCK XADD [x],EAX;
		MOV EAX,$1 |                    |MOV [x],EAX      `))
	proper := 0
	for n := range 4 * 3 * 4 * 4 * 27 * 2 {
		s := start(t, w.p)
		s.PC = []int{n % 4, n / 4 % 3, n / 12 % 4}
		s.Lock = n/48%4 - 1
		s.Phase = []int{n / 192 % 3, n / 576 % 3, n / 1728 % 3}
		if n/5184 == 1 {
			s.Buf[n%3] = []api.Write{{Value: 4}}
		}
		if w.proper(s) {
			proper++
		}
		w.hold(t, s, somePicks())
	}
	if want := 2 * (48 + 2*(2*16) + 2*12); proper != want {
		t.Errorf("%d proper states; want %d", proper, want)
	}
}

// 12.2: unruly states of unruly programs, proper and not, and of those at the bounds.
func TestUnruly(t *testing.T) {
	roll := dice(122)
	progs := []api.Prog{sb(t), all(t), fullest(), bare(1), bare(4)}
	for range 500 {
		progs = append(progs, someProg(roll, 4, 3))
	}
	for _, p := range progs {
		w := wordsOf(t, p)
		for range 12 {
			w.hold(t, someProper(roll, w), somePicks())
		}
		for range 3 {
			w.hold(t, someState(roll, p), somePicks())
		}
		s := someProper(roll, w)
		for i, l := range p.Threads {
			s.PC[i], s.Phase[i] = len(l), 0
			s.Buf[i] = s.Buf[i][:min(len(s.Buf[i]), roll(2))]
		}
		s.Lock = -1
		w.hold(t, s, somePicks())
	}
}

// 12.2: threads and locations that there are not.
func TestSeeRange(t *testing.T) {
	for _, p := range []api.Prog{sb(t), all(t), bare(1), fullest()} {
		s := start(t, p)
		for _, i := range []int{math.MinInt, -1, 0, 1, 2, 3, 4, math.MaxInt} {
			for _, loc := range []int{math.MinInt, -1, 0, 1, 2, 3, 15, 16, math.MaxInt} {
				v, e := tso.See(p, s, i, loc)
				if i >= 0 && i < len(p.Threads) && loc >= 0 && loc < len(p.Locs) {
					if v != p.LocInit[loc] || e != api.OK {
						t.Errorf("See %d %d: %d, %d", i, loc, v, e)
					}
				} else if v != 0 || e != api.ErrRange {
					t.Errorf("See %d %d: %d, %d; want ErrRange", i, loc, v, e)
				}
			}
		}
	}
}

// refuses asks all calls of a program and a state for one error, whatever else they are given.
func refuses(t *testing.T, what string, p api.Prog, s api.State, want api.Errno) {
	t.Helper()
	if l, e := tso.Picks(p, s); len(l) != 0 || e != want {
		t.Errorf("Picks with %s: %v, %d; want %d", what, l, e, want)
	}
	if ok, e := tso.Done(p, s); ok || e != want {
		t.Errorf("Done with %s: %v, %d; want %d", what, ok, e, want)
	}
	for _, n := range []int{-1, 0, 2, 9} {
		if v, e := tso.See(p, s, n, n); v != 0 || e != want {
			t.Errorf("See with %s: %v, %d; want %d", what, v, e, want)
		}
		for _, kind := range []int{0, api.PStep, api.PFlush} {
			if next, e := tso.Step(p, s, api.Pick{Thread: n, Kind: kind}); !isZero(next) || e != want {
				t.Errorf("Step with %s: %v, %d; want %d", what, next, e, want)
			}
		}
	}
}

// 12.1: a program that is not right, of all calls, ahead of all else.
func TestWrongPrograms(t *testing.T) {
	seen := map[api.Errno]int{}
	for what, p := range wrongProgs(t) {
		want := prog.Valid(p)
		seen[want]++
		for _, s := range []api.State{{}, {Lock: -1}, start(t, all(t)), start(t, sb(t))} {
			refuses(t, what, p, s, want)
		}
		if m, e := tso.New(p); e != want || !reflect.DeepEqual(m, api.Machine{}) {
			t.Errorf("New with %s: %d; want %d", what, e, want)
		}
	}
	for _, e := range []api.Errno{api.ErrThreads, api.ErrReg, api.ErrRegisters, api.ErrName, api.ErrLocs, api.ErrOp, api.ErrEvents} {
		if seen[e] == 0 {
			t.Errorf("no program is refused with %d", e)
		}
	}
}

// 12.1: a state that is none of the program, of all calls that are given one, ahead of what else is wrong.
func TestWrongStates(t *testing.T) {
	p, roll := all(t), dice(121)
	for range 10 {
		for _, w := range twists() {
			s := evenState(someState(roll, p))
			w.turn(&s)
			refuses(t, w.what, p, s, api.ErrState)
		}
	}
	refuses(t, "another program's state", p, start(t, sb(t)), api.ErrState)
	refuses(t, "another program's state", sb(t), start(t, p), api.ErrState)
}

// 12.4: what is handed in is not changed, in its spare room neither; what is handed out is new.
func TestMemory(t *testing.T) {
	roll := dice(124)
	taken := 0
	for range 300 {
		p := spareProg(someProg(roll, 4, 3))
		w := wordsOf(t, p)
		s := spareState(someProper(roll, w))
		before := whole(reflect.ValueOf(p)) + whole(reflect.ValueOf(s))
		l, _ := tso.Picks(p, s)
		again, _ := tso.Picks(p, s)
		kept := slices.Clone(again)
		spoil(reflect.ValueOf(&l).Elem())
		if !slices.Equal(again, kept) {
			t.Fatalf("Picks' answers share memory: %v; want %v", again, kept)
		}
		for _, k := range kept {
			a, _ := tso.Step(p, s, k)
			b, _ := tso.Step(p, s, k)
			want, _ := w.behind(s, k)
			apart(t, a)
			spoil(reflect.ValueOf(&a).Elem())
			if !sameState(b, want) {
				t.Fatalf("Step's answers share memory: %v; want %v", b, want)
			}
			taken++
		}
		for i := range p.Threads {
			for loc := range p.Locs {
				tso.See(p, s, i, loc)
			}
		}
		tso.Done(p, s)
		tso.New(p)
		if after := whole(reflect.ValueOf(p)) + whole(reflect.ValueOf(s)); after != before {
			t.Fatalf("arguments have changed: %s; they were %s", after, before)
		}
	}
	if taken < 300 {
		t.Errorf("%d steps", taken)
	}
}

// 12.4: lists that share memory where they are handed in do not where they are handed out.
func TestSharedState(t *testing.T) {
	p := of(t, "0:EAX=0; 1:EAX=0; 0:EBX=0; 1:EBX=0", "MOV EAX,$1|MOV [y],$2; MOV [x],$3|XCHG [x],EBX")
	w := wordsOf(t, p)
	regs, buf, numbers := []int64{5, 6}, []api.Write{{Value: 8}, {Value: 9}}, []int{0, 0}
	s := api.State{PC: numbers, Phase: numbers, Regs: [][]int64{regs, regs}, Mem: regs, Buf: [][]api.Write{buf[:1], buf[1:]}, Lock: -1}
	for _, k := range []api.Pick{stepOf(0), stepOf(1), flushOf(0), flushOf(1)} {
		want, ok := w.behind(s, k)
		next, e := tso.Step(p, s, k)
		if !ok || e != api.OK || !sameState(next, want) {
			t.Fatalf("Step %v: %v, %d; want %v", k, next, e, want)
		}
		apart(t, next)
		next.PC[0], next.Regs[0][0], next.Mem[1] = 1, 50, 60
		if next.Phase[0] != 0 || next.Regs[1][0] != want.Regs[1][0] || next.Regs[0][1] != want.Regs[0][1] || next.Regs[1][1] != want.Regs[1][1] {
			t.Errorf("Step %v: lists of the answer share memory: %s", k, fmt.Sprint(next))
		}
	}
	if !slices.Equal(regs, []int64{5, 6}) || !slices.Equal(buf, []api.Write{{Value: 8}, {Value: 9}}) || !slices.Equal(numbers, []int{0, 0}) {
		t.Errorf("arguments have changed: %v %v %v", regs, buf, numbers)
	}
}
