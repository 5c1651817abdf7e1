package axiom_test

import (
	"fmt"
	"slices"
	"testing"

	"weir/api"
	"weir/axiom"
	"weir/cand"
	"weir/odo"
	"weir/reduce"
	"weir/rel"
	"weir/state"
)

// follows holds the calls of an execution against one another; it answers by how many models it holds.
func follows(t *testing.T, x api.Exec) int {
	t.Helper()
	var holds int
	for i, m := range models {
		ok, _ := axiom.Holds(m, x)
		l, _ := axiom.Why(m, x)
		if ok != (len(l) == 0) {
			t.Fatalf("%s by %d: Holds %v, Why %v", tell(x), m, ok, l)
		}
		if holds > 0 && !ok {
			t.Fatalf("%s obeys %d models ahead of %d, not this one", tell(x), i, m)
		}
		if ok {
			holds++
		}
		r, _ := axiom.Global(m, x)
		for _, k := range l {
			if k.Axiom == api.AUniproc {
				goesAround(t, axiom.Uniproc(x), k.Round)
			}
			if k.Axiom == api.AGlobal {
				goesAround(t, r, k.Round)
			}
		}
		order, e := axiom.Order(m, x)
		if ok != (e == api.OK) || ok && len(order) != r.N {
			t.Fatalf("%s by %d: Order %v, %d", tell(x), m, order, e)
		}
		for i, a := range order {
			for _, b := range order[:i+1] {
				if rel.Has(r, a, b) {
					t.Fatalf("%s by %d: Order %v goes back, from %d to %d", tell(x), m, order, a, b)
				}
			}
		}
	}
	return holds
}

func goesAround(t *testing.T, r api.Rel, round []int) {
	t.Helper()
	if len(round) == 0 {
		t.Fatalf("a round of nobody in %v", r)
	}
	for i, a := range round {
		if !rel.Has(r, a, round[(i+1)%len(round)]) {
			t.Fatalf("the round %v does not go round in %v", round, r)
		}
	}
}

// 19.4: whole executions, and unruly ones.
func TestFollows(t *testing.T) {
	roll, count := dice(1941), map[int]int{}
	for range 600 {
		p := someProg(t, roll, 9)
		for range 6 {
			count[follows(t, someWhole(roll, p))]++
		}
	}
	for n := range 4 {
		if count[n] < 10 {
			t.Errorf("%d executions obey %d of the models", count[n], n)
		}
	}
	for _, x := range someExecs(dice(1942), 3) {
		follows(t, x)
	}
}

// allowed is the final states of a program's candidates that obey a model.
func allowed(t *testing.T, model int, p api.Prog, l []api.Exec) []api.Final {
	t.Helper()
	var finals []api.Final
	for _, x := range l {
		ok, e := axiom.Holds(model, x)
		if e != api.OK {
			t.Fatalf("Holds by %d of %s: %d", model, tell(x), e)
		}
		if ok {
			f, _ := cand.End(p, x)
			finals = append(finals, f)
		}
	}
	return state.Sort(finals)
}

// 19.1: what is known of well-known tests, by the three models: how many final states there are.
func TestKnown(t *testing.T) {
	for _, c := range []struct {
		name    string
		threads []string
		want    [3]int
	}{
		{"SB", []string{"MOV [x],$1; MOV EAX,[y]", "MOV [y],$1; MOV EAX,[x]"}, [3]int{3, 4, 4}},
		{"SB with fences", []string{"MOV [x],$1; MFENCE; MOV EAX,[y]", "MOV [y],$1; MFENCE; MOV EAX,[x]"}, [3]int{3, 3, 3}},
		{"SB with one fence", []string{"MOV [x],$1; MFENCE; MOV EAX,[y]", "MOV [y],$1; MOV EAX,[x]"}, [3]int{3, 4, 4}},
		{"SB with locks", []string{"MOV [x],$1; XCHG [z],EBX; MOV EAX,[y]", "MOV [y],$1; XCHG [w],EBX; MOV EAX,[x]"}, [3]int{3, 3, 3}},
		{"MP", []string{"MOV [x],$1; MOV [y],$1", "MOV EAX,[y]; MOV EBX,[x]"}, [3]int{3, 3, 4}},
		{"MP with a fence", []string{"MOV [x],$1; MFENCE; MOV [y],$1", "MOV EAX,[y]; MOV EBX,[x]"}, [3]int{3, 3, 3}},
		{"MP with a lock", []string{"MOV [x],$1; XCHG [z],EAX; MOV [y],$1", "MOV EAX,[y]; MOV EBX,[x]"}, [3]int{3, 3, 3}},
		{"LB", []string{"MOV EAX,[x]; MOV [y],$1", "MOV EAX,[y]; MOV [x],$1"}, [3]int{3, 3, 3}},
		{"2+2W", []string{"MOV [x],$1; MOV [y],$2", "MOV [y],$1; MOV [x],$2"}, [3]int{3, 3, 4}},
		{"CoRR", []string{"MOV [x],$1", "MOV EAX,[x]; MOV EBX,[x]"}, [3]int{3, 3, 3}},
		{"WRC", []string{"MOV [x],$1", "MOV EAX,[x]; MOV [y],$1", "MOV EAX,[y]; MOV EBX,[x]"}, [3]int{7, 7, 7}},
		{"IRIW", []string{"MOV [x],$1", "MOV [y],$1", "MOV EAX,[x]; MOV EBX,[y]", "MOV EAX,[y]; MOV EBX,[x]"}, [3]int{15, 15, 15}},
		{"R", []string{"MOV [x],$1; MOV [y],$1", "MOV [y],$2; MOV EAX,[x]"}, [3]int{3, 4, 4}},
		{"S", []string{"MOV [x],$2; MOV [y],$1", "MOV EAX,[y]; MOV [x],$1"}, [3]int{3, 3, 4}},
		{"XADD twice", []string{"MOV EAX,$1; LOCK XADD [x],EAX", "MOV EAX,$1; LOCK XADD [x],EAX"}, [3]int{2, 2, 2}},
	} {
		p := of(t, "", c.threads...)
		l := allOf(t, p)
		for i, m := range models {
			if n := len(allowed(t, m, p, l)); n != c.want[i] {
				t.Errorf("%s by %d: %d final states; want %d", c.name, m, n, c.want[i])
			}
		}
	}
}

// 19.1 against the machines: the axioms allow the final states to which these come.
func TestMachines(t *testing.T) {
	roll, wider, finals := dice(1943), [3]int{}, 0
	for _, p := range smallProgs(t, roll, 800, 300) {
		l, before := allOf(t, p), 0
		for i, m := range models {
			want, _, e := reduce.Finals(m, p, 1<<20)
			if e != api.OK {
				t.Fatalf("Finals(%d, %v): %d", m, p, e)
			}
			if got := allowed(t, m, p, l); !slices.Equal(got, want) {
				t.Fatalf("%v by %d: the axioms allow %d, the machine comes to %d", p, m, len(got), len(want))
			}
			if i > 0 && len(want) > before {
				wider[i]++
			}
			before = len(want)
			finals += before
		}
	}
	if finals < 3000 || wider[1] < 10 || wider[2] < 10 {
		t.Errorf("%d final states, more than by the model ahead %v times", finals, wider)
	}
}

// 19.1 against runs: what obeys MSC is what some weave of the threads does.
func TestRuns(t *testing.T) {
	roll, obey := dice(1944), 0
	for _, p := range smallProgs(t, roll, 300, 200) {
		runs := map[string]bool{}
		var lengths []int
		for _, ops := range p.Threads {
			lengths = append(lengths, len(ops))
		}
		s, _ := odo.Weaves(lengths)
		for order := range s.All() {
			x, e := cand.Run(p, order)
			if e != api.OK {
				t.Fatalf("Run(%v, %v): %d", p, order, e)
			}
			runs[fmt.Sprint(x)] = true
		}
		for _, x := range allOf(t, p) {
			ok, _ := axiom.Holds(api.MSC, x)
			if ok != runs[fmt.Sprint(x)] {
				t.Fatalf("%v: %s: Holds %v", p, tell(x), ok)
			}
			if ok {
				obey++
			}
		}
	}
	if obey < 500 {
		t.Errorf("%d executions alone obey", obey)
	}
}
