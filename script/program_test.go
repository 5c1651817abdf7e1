package script_test

import (
	"fmt"
	"slices"
	"strings"
	"testing"

	"weir/api"
	"weir/explore"
	"weir/litmus"
	"weir/prog"
	"weir/pso"
	"weir/sc"
	"weir/script"
	"weir/state"
	"weir/tso"
)

// of is the program of threads, each a list of instructions with ; between them.
func of(t *testing.T, threads ...string) api.Prog {
	t.Helper()
	x, err := litmus.Parse("X86 t { } P0; exists true")
	if err != nil {
		t.Fatal(err)
	}
	x.Threads = nil
	for _, texts := range threads {
		var l []api.Instr
		for _, text := range strings.FieldsFunc(texts, func(r rune) bool { return r == ';' }) {
			in, err := litmus.Instruction(text)
			if err != nil {
				t.Fatalf("%s: %v", text, err)
			}
			l = append(l, in)
		}
		x.Threads = append(x.Threads, l)
	}
	p, e := prog.Of(x)
	if e != api.OK {
		t.Fatalf("%v: %d", threads, e)
	}
	return p
}

// machines is a program's machines, by their names.
func machines(t *testing.T, p api.Prog) map[string]api.Machine {
	t.Helper()
	all := map[string]api.Machine{}
	for name, build := range map[string]func(api.Prog) (api.Machine, api.Errno){"sc": sc.New, "tso": tso.New, "pso": pso.New} {
		m, e := build(p)
		if e != api.OK {
			t.Fatalf("%s of %.300s: %d", name, fmt.Sprint(p), e)
		}
		all[name] = m
	}
	return all
}

const sb0, sb1 = "MOV [x],$1; MOV EAX,[y]", "MOV [y],$1; MOV EAX,[x]"

// read is the script of a text that is right.
func read(t *testing.T, s string) []api.Pick {
	t.Helper()
	l, err := script.Parse(s)
	if err != nil {
		t.Fatalf("Parse(%q): %v", s, err)
	}
	return l
}

// 15.2, 15.4: the chapter's examples 2 and 3, and the document's example 6.
func TestProgramExamples(t *testing.T) {
	m := machines(t, of(t, sb0, sb1))["tso"]
	for _, s := range []string{"0:s 1:s 0:s 1:s 0:f 1:f", "1:f 0:s 1:s 0:s 1:s 0:f 1:f"} {
		if f, ok := script.Outcome(m, read(t, s)); f != valued(0, 0, 1, 1) || !ok {
			t.Errorf("Outcome of %s: %v, %v", s, f, ok)
		}
	}
	if states, taken := script.Replay(m, read(t, "1:f 0:s")); taken[0] || !taken[1] || states[1] != m.Start || states[2] == m.Start {
		t.Errorf("Replay of 1:f 0:s: %q, %v", states, taken)
	}
	l := read(t, "0:f 0:s 0:s 0:s")
	if _, taken := script.Replay(m, l); !slices.Equal(taken, []bool{false, true, true, false}) {
		t.Errorf("Replay: %v", taken)
	}
	if s, _ := script.Text(script.Taken(m, l)); s != "0:s 0:s" {
		t.Errorf("Taken: %s", s)
	}
	if f, ok := script.Outcome(m, l); ok || f != (api.Final{}) {
		t.Errorf("Outcome: %v, %v", f, ok)
	}
	k, last := script.Finish(m, m.Start, 99)
	if s, _ := script.Text(k); s != "0:s 0:s 0:f 1:s 1:s 1:f" {
		t.Errorf("Finish: %s", s)
	}
	if f, ok := m.End(last); !ok || f != valued(0, 1, 1, 1) {
		t.Errorf("Finish leads to %v, %v", f, ok)
	}
}

// Scripts by PSO: a flush names its location, and one without it names the first location.
func TestFlushesByLocations(t *testing.T) {
	m := machines(t, of(t, "MOV [x],$1; MOV [y],$1", "MOV EAX,[y]; MOV EBX,[x]"))["pso"]
	if f, ok := script.Outcome(m, read(t, "0:s 0:s 0:f:1 1:s 1:s 0:f:1 0:f")); f != valued(1, 0, 1, 1) || !ok {
		t.Errorf("Outcome: %v, %v", f, ok)
	}
	k, _ := script.Finish(m, m.Start, 99)
	if s, _ := script.Text(k); s != "0:s 0:s 0:f 0:f:1 1:s 1:s" {
		t.Errorf("Finish: %s", s)
	}
}

// A machine of a text that is no state's has no picks: it stays where it is.
func TestNoState(t *testing.T) {
	for name, m := range machines(t, of(t, sb0, sb1)) {
		if l, s := script.Finish(m, "no state", 9); len(l) != 0 || s != "no state" {
			t.Errorf("Finish by %s: %v, %q", name, l, s)
		}
	}
}

// some is a thread of unruly instructions.
func some(roll func(int) int, longest int) string {
	var l []string
	for range roll(longest + 1) {
		l = append(l, pick(roll, []string{
			"MOV [x],$1", "MOV [y],$1", "MOV [x],$2", "MOV [y],EAX", "MOV EAX,[x]", "MOV EAX,[y]", "MOV EBX,[x]", "MOV EBX,EAX", "MFENCE", "XCHG [x],EAX", "LOCK XADD [y],EBX", "LOCK CMPXCHG [x],EBX",
		}))
	}
	return strings.Join(l, ";")
}

// 15.2 to 15.5, W5: whatever picks a scheduler names, those that can't be done change nothing, what is left can be brought to an end, and that is in the set.
func TestEveryScript(t *testing.T) {
	roll := dice(159)
	programs := []api.Prog{of(t, sb0, sb1), of(t, ""), of(t, "MOV [x],$1; MOV [y],$1", "MOV EAX,[y]; MOV EBX,[x]"), of(t, "LOCK XADD [x],EAX", "MOV [x],$1; XCHG [x],EAX", "MFENCE")}
	for range 30 {
		programs = append(programs, of(t, some(roll, 3), some(roll, 3)))
	}
	for _, p := range programs {
		for name, m := range machines(t, p) {
			set, _, e := explore.Explore(m, 1<<20)
			if e != api.OK {
				t.Fatalf("Explore of %v by %s: %d", p, name, e)
			}
			for range 20 {
				var l []api.Pick
				for range roll(25) {
					l = append(l, pick(roll, []api.Pick{st(roll(3)), st(roll(2)), fl(roll(2), 0), fl(roll(3), roll(3)), {Thread: roll(3) - 1, Kind: roll(4)}}))
				}
				hold(t, m, l)
				holdWhatFollows(t, m, l, []api.Pick{st(1), fl(0, 1), st(0)})
				states, _ := script.Replay(m, l)
				rest, last := script.Finish(m, states[len(l)], 1000)
				f, ok := m.End(last)
				if _, in := state.Find(set, f); !ok || !in {
					t.Fatalf("%v by %s: %v, finished by %v, comes to %v, %v", p, name, l, rest, f, ok)
				}
				if g, ok := script.Outcome(m, slices.Concat(l, rest)); g != f || !ok {
					t.Fatalf("%v by %s: %v and %v: %v, %v; want %v", p, name, l, rest, g, ok, f)
				}
			}
		}
	}
}
