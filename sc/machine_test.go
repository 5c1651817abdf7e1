package sc_test

import (
	"fmt"
	"reflect"
	"slices"
	"testing"

	"weir/api"
	"weir/prog"
	"weir/sc"
)

// log is what functions of a machine have been asked.
type log struct {
	picks, steps, ends []api.State
	taken              []api.Pick
}

// must is a machine, or the test is over.
func must(t *testing.T, m api.Machine, e api.Errno) api.Machine {
	t.Helper()
	if e != api.OK || m.Picks == nil || m.Step == nil || m.End == nil {
		t.Fatalf("a machine: %d", e)
	}
	return m
}

func made(t *testing.T, p api.Prog) api.Machine {
	t.Helper()
	m, e := sc.New(p)
	return must(t, m, e)
}

// 11.2: each function is asked once when the machine's is, of the state, and of nothing else; what it answers comes back.
func TestMachineAsks(t *testing.T) {
	roll := dice(121)
	for range 300 {
		p := someProg(roll, 3)
		var l log
		var picks []api.Pick
		var next api.State
		var yes bool
		m, e := sc.Machine(p,
			func(s api.State) []api.Pick { l.picks = append(l.picks, evenState(s)); return picks },
			func(s api.State, k api.Pick) (api.State, bool) {
				l.steps, l.taken = append(l.steps, evenState(s)), append(l.taken, k)
				return next, yes
			},
			func(s api.State) bool { l.ends = append(l.ends, evenState(s)); return yes })
		m = must(t, m, e)
		if m.Start != saysText(saysStart(p)) || len(l.picks)+len(l.steps)+len(l.ends) != 0 {
			t.Fatalf("Machine(%v): Start %q, asked %v", p, m.Start, l)
		}
		for range 10 {
			s := someState(roll, p)
			text := saysText(s)
			next, yes = someState(roll, p), roll(2) == 0
			picks = nil
			for range roll(4) {
				picks = append(picks, api.Pick{Thread: roll(9) - 4, Kind: roll(9) - 4, Loc: roll(9) - 4})
			}
			l = log{}
			if got := m.Picks(text); !slices.Equal(got, picks) || len(l.picks) != 1 || !sameState(l.picks[0], s) || l.steps != nil || l.ends != nil {
				t.Fatalf("Picks(%q): %v; want %v; asked %v", text, got, picks, l)
			}
			l = log{}
			k := api.Pick{Thread: roll(9) - 4, Kind: roll(9) - 4, Loc: roll(9) - 4}
			want := ""
			if yes {
				want = saysText(next)
			}
			if got, ok := m.Step(text, k); got != want || ok != yes || len(l.steps) != 1 || !sameState(l.steps[0], s) || l.taken[0] != k || l.picks != nil || l.ends != nil {
				t.Fatalf("Step(%q, %v): %q %v; want %q %v; asked %v", text, k, got, ok, want, yes, l)
			}
			l = log{}
			final := api.Final{}
			if yes {
				final = saysFinal(s)
			}
			if got, ok := m.End(text); got != final || ok != yes || len(l.ends) != 1 || !sameState(l.ends[0], s) || l.picks != nil || l.steps != nil {
				t.Fatalf("End(%q): %v %v; want %v %v; asked %v", text, got, ok, final, yes, l)
			}
		}
	}
}

// 11.2: texts that are no state's: nothing is asked, and there is nothing.
func TestMachineOfNoState(t *testing.T) {
	p, roll := all(t), dice(122)
	asked := 0
	m, e := sc.Machine(p,
		func(api.State) []api.Pick { asked++; return []api.Pick{{Kind: api.PStep}} },
		func(s api.State, _ api.Pick) (api.State, bool) { asked++; return s, true },
		func(api.State) bool { asked++; return true })
	m = must(t, m, e)
	for _, n := range []api.Machine{m, made(t, p)} {
		for range 2000 {
			b := []byte(saysText(someState(roll, p)))
			for range roll(3) {
				b[roll(len(b))] = byte(roll(256))
			}
			text := string(b[:len(b)-roll(3)])
			if _, ok := saysRead(p, text); ok {
				continue
			}
			asked = 0
			l := n.Picks(text)
			next, ok := n.Step(text, api.Pick{Kind: api.PStep})
			f, end := n.End(text)
			if len(l) != 0 || next != "" || ok || f != (api.Final{}) || end || asked != 0 {
				t.Fatalf("of %q: %v, %q %v, %v %v, asked %d", text, l, next, ok, f, end, asked)
			}
		}
	}
}

// 11.2: a step behind which there is no state.
func TestMachineStepsOut(t *testing.T) {
	p, roll := all(t), dice(123)
	var turn func(*api.State)
	yes := true
	m, e := sc.Machine(p,
		func(api.State) []api.Pick { return nil },
		func(s api.State, _ api.Pick) (api.State, bool) { turn(&s); return s, yes },
		func(api.State) bool { return false })
	m = must(t, m, e)
	seen := map[bool]int{}
	for range 20 {
		for _, w := range twists() {
			s := evenState(someState(roll, p))
			text := saysText(s)
			turn = w.turn
			w.turn(&s)
			want := ""
			if isState(p, s) {
				want = saysText(s)
			}
			yes = true
			if next, ok := m.Step(text, api.Pick{}); next != want || ok != isState(p, s) {
				t.Errorf("Step to %s: %q %v; want %q", w.what, next, ok, want)
			}
			yes = false
			if next, ok := m.Step(text, api.Pick{}); next != "" || ok {
				t.Errorf("no step to %s: %q %v", w.what, next, ok)
			}
			seen[isState(p, s)]++
		}
	}
	if seen[true] == 0 || seen[false] == 0 {
		t.Errorf("steps to states and to none: %v", seen)
	}
}

// 11.2: states are in memory of their own, whatever the functions do with them; so are lists of picks; p is not kept.
func TestMachineMemory(t *testing.T) {
	roll := dice(124)
	for range 100 {
		p := spareProg(someProg(roll, 3))
		q := evenProg(p)
		before := whole(reflect.ValueOf(p))
		kept := spare([]api.Pick{{Thread: 1, Kind: 2, Loc: 3}, {Thread: 4}}, api.Pick{Loc: 5})
		var last api.State
		m, e := sc.Machine(p,
			func(s api.State) []api.Pick { apartState(t, s); spoilState(&s); return kept },
			func(s api.State, _ api.Pick) (api.State, bool) {
				apartState(t, s)
				last = evenState(s)
				next := evenState(s)
				spoilState(&s)
				return next, true
			},
			func(s api.State) bool { apartState(t, s); spoilState(&s); return true })
		m = must(t, m, e)
		if after := whole(reflect.ValueOf(p)); after != before {
			t.Fatalf("the program has changed: %s; it was %s", after, before)
		}
		spoilProg(&p)
		s := someState(roll, q)
		text := saysText(s)
		for range 2 {
			l := m.Picks(text)
			if !slices.Equal(l, []api.Pick{{Thread: 1, Kind: 2, Loc: 3}, {Thread: 4}}) {
				t.Fatalf("Picks: %v", l)
			}
			spoil(reflect.ValueOf(&l).Elem())
			if kept[0].Loc != 3 || kept[:3][2].Loc != 5 {
				t.Fatalf("Picks' list is shared: %v", kept[:3])
			}
			if next, ok := m.Step(text, api.Pick{}); next != text || !ok || !sameState(last, s) {
				t.Fatalf("Step: %q %v; want %q", next, ok, text)
			}
			if f, ok := m.End(text); f != saysFinal(s) || !ok {
				t.Fatalf("End: %v %v; want %v", f, ok, saysFinal(s))
			}
		}
		if m.Start != saysText(saysStart(q)) {
			t.Fatalf("Start: %q", m.Start)
		}
	}
}

// 11.2: what step answers may be the state that it was given, changed, or one that it keeps.
func TestMachineKeepsNothing(t *testing.T) {
	p := sb(t)
	kept := saysStart(evenProg(p))
	m, e := sc.Machine(p,
		func(api.State) []api.Pick { return nil },
		func(s api.State, k api.Pick) (api.State, bool) {
			if k.Loc == 1 {
				kept.PC[0] = 1
				return kept, true
			}
			s.PC[0]++
			return s, true
		},
		func(s api.State) bool { return s.PC[0] == 2 })
	m = must(t, m, e)
	text, ok := m.Step(m.Start, api.Pick{Loc: 1})
	kept.PC[0] = 2
	if again, _ := m.Step(m.Start, api.Pick{}); !ok || text != again || text[0] != 2 {
		t.Errorf("Step: %q %v; %q", text, ok, again)
	}
	text, ok = m.Step(text, api.Pick{})
	if f, end := m.End(text); !ok || !end || f.N != 4 {
		t.Errorf("End(%q): %v %v", text, f, end)
	}
	if next, ok := m.Step(text, api.Pick{}); next != "" || ok {
		t.Errorf("a step beyond the last instruction: %q %v", next, ok)
	}
}

// 11.3: the chapter's examples 1 and 2.
func TestExampleMachine(t *testing.T) {
	m := made(t, sb(t))
	if m.Start != "\x00\x00\x00\x00\x00\x00\x00\x00\x00\x00\x01" {
		t.Errorf("Start: %q", m.Start)
	}
	if l := m.Picks(m.Start); !slices.Equal(l, []api.Pick{{Thread: 0, Kind: api.PStep}, {Thread: 1, Kind: api.PStep}}) {
		t.Errorf("Picks: %v", l)
	}
	if text, ok := m.Step(m.Start, api.Pick{Kind: api.PStep}); text != "\x02\x00\x00\x00\x00\x00\x02\x00\x00\x00\x01" || !ok {
		t.Errorf("Step: %q %v", text, ok)
	}
}

// somePicks is picks of all kinds, right and wrong.
func somePicks() []api.Pick {
	var l []api.Pick
	for _, i := range []int{-1 << 63, -1, 0, 1, 2, 3, 4, 5, 1<<63 - 1} {
		for _, kind := range []int{-1, 0, api.PStep, api.PFlush, 3} {
			for _, loc := range []int{-1, 0, 1, 2} {
				l = append(l, api.Pick{Thread: i, Kind: kind, Loc: loc})
			}
		}
	}
	return l
}

// checkPlain holds a machine of sequential consistency in a state against the words.
func checkPlain(t *testing.T, p api.Prog, m api.Machine, s api.State) {
	t.Helper()
	text := saysText(s)
	plain := sameState(s, flattened(s))
	var want []api.Pick
	for i, l := range p.Threads {
		if plain && s.PC[i] < len(l) {
			want = append(want, api.Pick{Thread: i, Kind: api.PStep})
		}
	}
	if l := m.Picks(text); !slices.Equal(l, want) {
		t.Fatalf("Picks of %.300s: %v; want %v", fmt.Sprint(s), l, want)
	}
	for _, k := range somePicks() {
		next, behind := "", slices.Contains(want, k)
		if behind {
			next = saysText(saysTurn(p, s, k.Thread))
		}
		if got, ok := m.Step(text, k); got != next || ok != behind {
			t.Fatalf("Step of %v in %.300s: %q %v; want %q", k, fmt.Sprint(s), got, ok, next)
		}
	}
	end := plain && len(want) == 0
	final := api.Final{}
	if end {
		final = saysFinal(s)
	}
	if f, ok := m.End(text); f != final || ok != end {
		t.Fatalf("End of %.300s: %v %v; want %v %v", fmt.Sprint(s), f, ok, final, end)
	}
}

// 11.3: unruly states, the machine's own and others.
func TestNew(t *testing.T) {
	roll := dice(131)
	progs := []api.Prog{sb(t), all(t), fullest(), bare(1), bare(4)}
	for range 200 {
		progs = append(progs, someProg(roll, 3))
	}
	for _, p := range progs {
		m := made(t, p)
		for range 3 {
			s := someState(roll, p)
			checkPlain(t, p, m, s)
			checkPlain(t, p, m, flattened(s))
			last := flattened(s)
			for i, l := range p.Threads {
				last.PC[i] = len(l)
			}
			checkPlain(t, p, m, last)
			for i := range p.Threads { // one thing alone that the machine's states have not
				for _, turn := range oddities(i, len(p.Locs)) {
					odd := evenState(last)
					turn(&odd)
					checkPlain(t, p, m, odd)
				}
			}
		}
	}
}

func oddities(thread, locs int) []func(*api.State) {
	l := []func(*api.State){
		func(s *api.State) { s.Lock = thread },
		func(s *api.State) { s.Phase[thread] = 1 },
		func(s *api.State) { s.Phase[thread] = 2 },
	}
	if locs > 0 {
		l = append(l, func(s *api.State) { s.Buf[thread] = []api.Write{{}} })
	}
	return l
}

// 11.3: each instruction over values at the ends, with one register and with two.
func TestNewOne(t *testing.T) {
	values := []int64{0, 1, 2, -1, 1<<63 - 1, -1 << 63}
	for _, text := range []string{
		"MOV EAX,$-7", "MOV EBX,$9223372036854775807", "MOV EAX,EBX", "MOV EBX,EBX", "MOV EAX,[x]", "MOV EBX,[y]", "MOV [x],$5", "MOV [y],EBX", "MFENCE",
		"XCHG [x],EAX", "XCHG [y],EBX", "LOCK CMPXCHG [x],EBX", "LOCK CMPXCHG [x],EAX", "LOCK XADD [x],EAX", "LOCK XADD [y],EBX",
	} {
		for n := range 6 * 6 * 6 {
			a, b, x := values[n%6], values[n/6%6], values[n/36]
			p := of(t, fmt.Sprintf("0:EAX=%d; 0:EBX=%d; x=%d; y=%d", a, b, x, x+1), text)
			checkPlain(t, p, made(t, p), saysStart(p))
		}
	}
}

// 11.3: what each instruction does, written out: EAX is 1, EBX 2, x 3, y 1.
func TestNewWritten(t *testing.T) {
	for _, c := range []struct {
		text string
		want []int64
	}{
		{"MOV EBX,$-7", []int64{1, -7, 3, 1}},
		{"MOV EBX,EAX", []int64{1, 1, 3, 1}},
		{"MOV EAX,[x]", []int64{3, 2, 3, 1}},
		{"MOV [x],$9", []int64{1, 2, 9, 1}},
		{"MOV [y],EBX", []int64{1, 2, 3, 2}},
		{"MFENCE", []int64{1, 2, 3, 1}},
		{"XCHG [x],EBX", []int64{1, 3, 2, 1}},
		{"LOCK CMPXCHG [x],EBX", []int64{3, 2, 3, 1}},
		{"LOCK CMPXCHG [y],EBX", []int64{1, 2, 3, 2}},
		{"LOCK XADD [x],EBX", []int64{1, 3, 5, 1}},
	} {
		p := of(t, "0:EAX=1; 0:EBX=2; x=3; y=1", c.text)
		m := made(t, p)
		text, _ := m.Step(m.Start, api.Pick{Kind: api.PStep})
		if f, ok := m.End(text); !ok || f.N != 4 || !slices.Equal(f.V[:4], c.want) {
			t.Errorf("%s: %v %v; want %v", c.text, f.V[:4], ok, c.want)
		}
		if f, e := sc.Play(p, []int{0}); e != api.OK || f.N != 4 || !slices.Equal(f.V[:4], c.want) {
			t.Errorf("Play of %s: %v %d; want %v", c.text, f.V[:4], e, c.want)
		}
	}
}

// 11.3, R4: a machine keeps nothing of the program, and its answers are new.
func TestNewMemory(t *testing.T) {
	roll := dice(132)
	for range 50 {
		p := spareProg(someProg(roll, 3))
		q := evenProg(p)
		before := whole(reflect.ValueOf(p))
		m := made(t, p)
		if after := whole(reflect.ValueOf(p)); after != before {
			t.Fatalf("New has changed the program: %s; it was %s", after, before)
		}
		spoilProg(&p)
		for range 5 {
			s := flattened(someState(roll, q))
			a := m.Picks(saysText(s))
			spoil(reflect.ValueOf(&a).Elem())
			checkPlain(t, q, m, s)
		}
	}
}

// R5: a machine may be asked by many at once.
func TestNewAtOnce(t *testing.T) {
	p := all(t)
	m := made(t, p)
	answers := make(chan api.Final)
	for k := range 8 {
		go func() {
			roll, text := dice(uint64(k%2)), m.Start
			for l := m.Picks(text); len(l) > 0; l = m.Picks(text) {
				text, _ = m.Step(text, pick(roll, l))
			}
			f, _ := m.End(text)
			answers <- f
		}()
	}
	seen := map[api.Final]int{}
	for range 8 {
		seen[<-answers]++
	}
	for f, n := range seen {
		if n%4 != 0 || f.N != len(prog.Names(p)) {
			t.Errorf("the same picks come to unlike ends: %d %v", n, f)
		}
	}
}
