package pso_test

import (
	"fmt"
	"reflect"
	"slices"
	"testing"

	"weir/api"
	"weir/pso"
	"weir/sc"
)

func made(t *testing.T, p api.Prog) api.Machine {
	t.Helper()
	m, e := pso.New(p)
	if e != api.OK || m.Picks == nil || m.Step == nil || m.End == nil {
		t.Fatalf("New(%.300s): %d", fmt.Sprint(p), e)
	}
	return m
}

func textOf(t *testing.T, p api.Prog, s api.State) string {
	t.Helper()
	text, e := sc.Code(p, s)
	if e != api.OK {
		t.Fatalf("Code(%.300s): %d", fmt.Sprint(s), e)
	}
	return text
}

// finalOf is the final state with a state's registers and memory.
func finalOf(s api.State) api.Final {
	f := api.Final{}
	for _, v := range slices.Concat(slices.Concat(s.Regs...), s.Mem) {
		f.V[f.N] = v
		f.N++
	}
	return f
}

// holdMachine holds a machine in a state against the chapter.
func holdMachine(t *testing.T, p api.Prog, m api.Machine, s api.State) {
	t.Helper()
	text := textOf(t, p, s)
	l := picksOf(p, s)
	if got := m.Picks(text); !slices.Equal(got, l) {
		t.Fatalf("Picks of %.300s: %v; want %v", fmt.Sprint(s), got, l)
	}
	for _, k := range slices.Concat(somePicks(), l) {
		want := ""
		right, ok := behind(p, s, k)
		if ok {
			want = textOf(t, p, right)
		}
		if next, did := m.Step(text, k); next != want || did != ok {
			t.Fatalf("Step %v of %.300s: %q %v; want %q %v", k, fmt.Sprint(s), next, did, want, ok)
		}
	}
	f, end := api.Final{}, isDone(p, s)
	if end {
		f = finalOf(s)
	}
	if got, ok := m.End(text); got != f || ok != end {
		t.Fatalf("End of %.300s: %v %v; want %v %v", fmt.Sprint(s), got, ok, f, end)
	}
}

// 13.3: the machine in unruly states, proper and not, at the start and at the end.
func TestMachine(t *testing.T) {
	roll := dice(1331)
	for _, p := range someProgs(t, roll, 200) {
		m := made(t, p)
		if m.Start != textOf(t, p, start(t, p)) {
			t.Fatalf("Start of %.300s: %q", fmt.Sprint(p), m.Start)
		}
		holdMachine(t, p, m, start(t, p))
		for range 3 {
			holdMachine(t, p, m, someProper(roll, p))
			holdMachine(t, p, m, someState(roll, p))
		}
		last := someProper(roll, p)
		last.Lock = -1
		for i, l := range p.Threads {
			last.PC[i], last.Phase[i], last.Buf[i] = len(l), 0, nil
		}
		holdMachine(t, p, m, last)
		for i := range p.Threads { // one thing alone by which it is no end
			odd := wide(last)
			odd.Lock = i
			holdMachine(t, p, m, odd)
			odd.Lock, odd.Phase[i] = -1, 1
			holdMachine(t, p, m, odd)
			odd.Phase[i] = 0
			if len(p.Locs) > 0 {
				odd.Buf[i] = []api.Write{{Loc: len(p.Locs) - 1}}
				holdMachine(t, p, m, odd)
			}
		}
	}
}

// 13.3: texts that are no state's.
func TestMachineOfNoState(t *testing.T) {
	p, roll := all(t), dice(1332)
	m := made(t, p)
	none := 0
	for range 3000 {
		b := []byte(textOf(t, p, someState(roll, p)))
		for range roll(3) {
			b[roll(len(b))] = byte(roll(256))
		}
		text := string(b[:len(b)-roll(3)])
		if _, e := sc.Read(p, text); e == api.OK {
			continue
		}
		none++
		for _, k := range nearPicks() {
			if next, ok := m.Step(text, k); next != "" || ok {
				t.Fatalf("Step %v of %q: %q %v", k, text, next, ok)
			}
		}
		f, end := m.End(text)
		if l := m.Picks(text); len(l) != 0 || f != (api.Final{}) || end {
			t.Fatalf("of %q: %v, %v %v", text, l, f, end)
		}
	}
	if none < 1000 {
		t.Errorf("%d texts are no state's", none)
	}
}

// R4: a machine keeps nothing of the program, and its answers are new.
func TestMachineMemory(t *testing.T) {
	roll := dice(1333)
	for range 60 {
		p := wide(someProg(t, roll, 4, 3))
		q := wide(p)
		m := made(t, p)
		spoil(reflect.ValueOf(&p).Elem())
		if m.Start != textOf(t, q, start(t, q)) {
			t.Fatalf("Start of a program that has changed: %q", m.Start)
		}
		for range 4 {
			s := someProper(roll, q)
			l := m.Picks(textOf(t, q, s))
			spoil(reflect.ValueOf(&l).Elem())
			holdMachine(t, q, m, s)
		}
	}
}

// R5: a machine may be asked by many at once.
func TestMachineAtOnce(t *testing.T) {
	m := made(t, all(t))
	answers := make(chan api.Final)
	for k := range 8 {
		go func() {
			roll, text := dice(uint64(k%2)), m.Start
			for l := m.Picks(text); len(l) > 0; l = m.Picks(text) {
				text, _ = m.Step(text, pick(roll, l))
			}
			f, _ := m.End(text)
			answers <- f
		}()
	}
	seen := map[api.Final]int{}
	for range 8 {
		seen[<-answers]++
	}
	for f, n := range seen {
		if n%4 != 0 || f.N == 0 {
			t.Errorf("the same picks come to unlike ends: %d %v", n, f)
		}
	}
}
