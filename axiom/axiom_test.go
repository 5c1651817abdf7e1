package axiom_test

import (
	"fmt"
	"math"
	"reflect"
	"slices"
	"testing"

	"weir/api"
	"weir/axiom"
	"weir/rel"
)

var models = []int{api.MSC, api.MTSO, api.MPSO}

// tell is an execution in few words.
func tell(x api.Exec) string {
	return fmt.Sprintf("%d events %.400s, %.200s, %.200s", len(x.Events), fmt.Sprint(x.Events), fmt.Sprint(x.From), fmt.Sprint(x.Order))
}

// same tells whether two lists of broken axioms are the same.
func same(a, b []api.Broken) bool {
	return slices.EqualFunc(a, b, func(a, b api.Broken) bool { return a.Axiom == b.Axiom && slices.Equal(a.Round, b.Round) })
}

// hold holds all calls of an execution, but Labels, against the chapter's words; it counts which axioms are broken together.
func hold(t *testing.T, p api.Prog, x api.Exec, count map[string]int) {
	t.Helper()
	w := wordsOf(x)
	if r := axiom.Uniproc(x); r != w.union(parts(0)) {
		t.Fatalf("Uniproc of %s: %v; want %v", tell(x), r, w.union(parts(0)))
	}
	for _, m := range models {
		global, why := w.union(parts(m)), w.why(m)
		if r, e := axiom.Global(m, x); e != api.OK || r != global {
			t.Fatalf("Global by %d of %s: %v, %d; want %v", m, tell(x), r, e, global)
		}
		if ok, e := axiom.Holds(m, x); e != api.OK || ok != (len(why) == 0) {
			t.Fatalf("Holds by %d of %s: %v, %d; want %v", m, tell(x), ok, e, why)
		}
		if l, e := axiom.Why(m, x); e != api.OK || !same(l, why) {
			t.Fatalf("Why by %d of %s: %v, %d; want %v", m, tell(x), l, e, why)
		}
		order, found := rel.Extend(global)
		want := api.OK
		if len(why) != 0 {
			order, want = nil, api.ErrNone
		} else if !found {
			t.Fatalf("no order by %d of %s", m, tell(x))
		}
		if l, e := axiom.Order(m, x); e != want || !slices.Equal(l, order) {
			t.Fatalf("Order by %d of %s: %v, %d; want %v, %d", m, tell(x), l, e, order, want)
		}
		if s, e := axiom.Explain(p, m, x); e != api.OK || s != w.explain(p, m, why) {
			t.Fatalf("Explain by %d of %s: %q, %d; want %q", m, tell(x), s, e, w.explain(p, m, why))
		}
		var broken []int
		for _, k := range why {
			broken = append(broken, k.Axiom)
		}
		count[fmt.Sprint(m, broken)]++
	}
}

// holdLabels holds Labels against the chapter's words, for all pairs of events, and for numbers that are none's.
func holdLabels(t *testing.T, x api.Exec, count map[string]int) {
	t.Helper()
	w := wordsOf(x)
	numbers := someNumbers(w.n)
	for a := range w.n {
		numbers = append(numbers, a)
	}
	for _, a := range numbers {
		for _, b := range numbers {
			want := w.labels(a, b)
			if l := axiom.Labels(x, a, b); !slices.Equal(l, want) {
				t.Fatalf("Labels of %s, %d, %d: %q; want %q", tell(x), a, b, l, want)
			}
			for _, name := range want {
				count[name]++
			}
		}
	}
}

// someNames is a program that has some names for locations, and is else nothing.
func someNames() api.Prog { return api.Prog{Locs: []string{"x", "y", "a_long_name"}} }

// 19.1 to 19.3, 19.6: unruly executions of all lengths; nearly each set of axioms that may be broken together is (the other one is in TestLocks).
func TestAnything(t *testing.T) {
	count := map[string]int{}
	for _, x := range someExecs(dice(191), 8) {
		hold(t, someNames(), x, count)
	}
	for _, what := range []string{
		"1 []", "1 [2]", "1 [3]", "1 [1 3]", "1 [1 2 3]", // what Uniproc has Global has by MSC
		"2 []", "2 [1]", "2 [2]", "2 [3]", "2 [1 2]", "2 [1 3]", "2 [1 2 3]",
		"3 []", "3 [1]", "3 [2]", "3 [3]", "3 [1 2]", "3 [1 3]", "3 [1 2 3]",
	} {
		if count[what] < 2 {
			t.Errorf("the model and its broken axioms %s: %d times", what, count[what])
		}
	}
}

// 19.1 to 19.3, 19.6: programs' events, whatever their reads read.
func TestOfPrograms(t *testing.T) {
	roll, count := dice(192), map[string]int{}
	for range 600 {
		p := someProg(t, roll, 9)
		for range 6 {
			hold(t, p, someWhole(roll, p), count)
		}
	}
	for _, what := range []string{"1 []", "1 [2]", "1 [3]", "2 []", "2 [1]", "2 [2]", "2 [3]", "3 []", "3 [1]", "3 [2]", "3 [3]"} {
		if count[what] < 5 {
			t.Errorf("the model and its broken axioms %s: %d times", what, count[what])
		}
	}
}

// 19.5: unruly executions, and programs' events.
func TestLabels(t *testing.T) {
	roll, count := dice(195), map[string]int{}
	for n := range 12 {
		for range 3 {
			holdLabels(t, someExec(roll, n), count)
			holdLabels(t, someDense(roll), count)
		}
	}
	for _, n := range []int{64, 65} {
		holdLabels(t, someExec(roll, n), count)
	}
	for range 40 {
		holdLabels(t, someWhole(roll, someProg(t, roll, 9)), count)
	}
	for _, name := range []string{"po", "fence", "lock", "rfe", "rfi", "coe", "coi", "fre", "fri"} {
		if count[name] < 50 {
			t.Errorf("%s: %d pairs in all", name, count[name])
		}
	}
}

// All but Uniproc and Labels: models that are none, whatever the execution is.
func TestWrongModels(t *testing.T) {
	roll := dice(190)
	l := []api.Exec{{}, someExec(roll, 70)}
	for range 20 {
		l = append(l, someExec(roll, roll(12)), someWhole(roll, someProg(t, roll, 9)))
	}
	for _, m := range []int{math.MinInt, -1, 0, 4, 5, 257, math.MaxInt} {
		for _, x := range l {
			if r, e := axiom.Global(m, x); e != api.ErrRange || r != (api.Rel{}) {
				t.Fatalf("Global by %d of %s: %v, %d", m, tell(x), r, e)
			}
			if ok, e := axiom.Holds(m, x); e != api.ErrRange || ok {
				t.Fatalf("Holds by %d of %s: %v, %d", m, tell(x), ok, e)
			}
			if l, e := axiom.Why(m, x); e != api.ErrRange || len(l) != 0 {
				t.Fatalf("Why by %d of %s: %v, %d", m, tell(x), l, e)
			}
			if l, e := axiom.Order(m, x); e != api.ErrRange || len(l) != 0 {
				t.Fatalf("Order by %d of %s: %v, %d", m, tell(x), l, e)
			}
			if s, e := axiom.Explain(someNames(), m, x); e != api.ErrRange || s != "" {
				t.Fatalf("Explain by %d of %s: %q, %d", m, tell(x), s, e)
			}
		}
	}
}

// R4: what is handed in stays as it is, and what is handed out is new memory.
func TestMemory(t *testing.T) {
	roll, lists := dice(194), 0
	for i := range 400 {
		x, p := wide(someExec(roll, roll(12))), wide(someNames())
		if i%2 == 0 {
			x = wide(someWhole(roll, someProg(t, roll, 9)))
		}
		before := whole(reflect.ValueOf(x)) + whole(reflect.ValueOf(p))
		answers := []any{x, p}
		for _, m := range models {
			for range 2 {
				why, _ := axiom.Why(m, x)
				order, _ := axiom.Order(m, x)
				answers = append(answers, why, order, axiom.Labels(x, roll(12), roll(12)))
				lists += len(why) + min(len(order), 1)
			}
			axiom.Global(m, x)
			axiom.Holds(m, x)
			axiom.Explain(p, m, x)
		}
		axiom.Uniproc(x)
		if after := whole(reflect.ValueOf(x)) + whole(reflect.ValueOf(p)); after != before {
			t.Fatalf("%.300s has become %.300s", before, after)
		}
		apart(t, answers...)
		want, _ := axiom.Why(api.MSC, x)
		said := fmt.Sprint(want)
		for _, a := range answers[2:] {
			spoil(reflect.ValueOf(a))
		}
		if again, _ := axiom.Why(api.MSC, x); fmt.Sprint(again) != said {
			t.Fatalf("Why: %s, then %v", said, again)
		}
	}
	if lists < 1000 {
		t.Errorf("%d lists alone", lists)
	}
}
