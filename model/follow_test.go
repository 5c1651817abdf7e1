package model_test

import (
	"fmt"
	"slices"
	"testing"

	"weir/api"
	"weir/axiom"
	"weir/cat"
	"weir/model"
)

// holds is what Holds answers of a model that has nothing wrong.
func holds(t *testing.T, m api.Model, x api.Exec) bool {
	t.Helper()
	ok, e := model.Holds(m, x)
	if e != api.OK {
		t.Fatalf("Holds(%v): %d", m, e)
	}
	return ok
}

// 21.4: the models hold of what the axioms hold of, whatever the execution is.
func TestAxioms(t *testing.T) {
	roll := dice(214)
	execs := someExecs(roll, 10)
	for range 4000 {
		execs = append(execs, someDense(roll))
	}
	for _, p := range shapes(t) {
		execs = append(execs, allOf(t, p)...)
	}
	var known [api.MPSO + 1]api.Model
	for kind := api.MSC; kind <= api.MPSO; kind++ {
		known[kind], _ = model.Known(kind)
	}
	count := map[string]int{}
	for _, x := range execs {
		told := ""
		for kind := api.MSC; kind <= api.MPSO; kind++ {
			m := known[kind]
			want, _ := axiom.Holds(kind, x)
			if got := holds(t, m, x); got != want {
				t.Fatalf("Holds by %s: %v; want %v: %.500s", m.Name, got, want, fmt.Sprint(x))
			}
			told += fmt.Sprint(want, " ")
		}
		count[told]++
	}
	for _, told := range []string{"true true true ", "false true true ", "false false true ", "false false false "} {
		if count[told] < 50 {
			t.Errorf("%d executions that the models take by %s", count[told], told)
		}
	}
}

// 21.4: rounds of the three models are those of the axioms, but of AAtomic, where the middle is left out.
func TestRoundsOfAxioms(t *testing.T) {
	roll := dice(2141)
	rules := map[int][]int{api.MSC: {0, 1, 2}, api.MTSO: {1, 2, 6}, api.MPSO: {1, 2, 6}}
	for range 3000 {
		x := someDense(roll)
		for kind, numbers := range rules {
			m, _ := model.Known(kind)
			got, _ := model.Why(m, x)
			want, _ := axiom.Why(kind, x)
			if len(got) != len(want) {
				t.Fatalf("Why by %s: %v; want %v: %v", m.Name, got, want, x)
			}
			for i, b := range want {
				alike := slices.Equal(got[i].Round, b.Round)
				if b.Axiom == api.AAtomic {
					alike = len(got[i].Round) == 2 && got[i].Round[0] == b.Round[0]
				}
				if got[i].Axiom != numbers[b.Axiom-1] || !alike {
					t.Fatalf("Why by %s: %v; want %v: %v", m.Name, got, want, x)
				}
			}
		}
	}
}

// 21.4: a model with its lets put in place, and with checks left out.
func TestInlineAndFewer(t *testing.T) {
	roll := dice(2142)
	held := 0
	for range 3000 {
		m, x := someModel(t, roll, 1+roll(7), 4), someDense(roll)
		ok := holds(t, m, x)
		if why, _ := model.Why(m, x); ok != (len(why) == 0) {
			t.Fatalf("Why(%v): %v; Holds: %v", m, why, ok)
		}
		if flat, e := cat.Inline(m); e == api.OK && holds(t, flat, x) != ok {
			t.Fatalf("Holds(%v): %v; of its Inline %v", m, ok, !ok)
		}
		fewer := api.Model{Name: m.Name}
		for _, r := range m.Rules {
			if r.Kind == api.RLet || roll(2) == 0 {
				fewer.Rules = append(fewer.Rules, r)
			}
		}
		if ok && !holds(t, fewer, x) {
			t.Fatalf("%v holds, %v does not", m, fewer)
		}
		if ok {
			held++
		}
	}
	if held < 300 {
		t.Errorf("%d models hold", held)
	}
}
