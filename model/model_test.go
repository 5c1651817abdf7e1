package model_test

import (
	"fmt"
	"math"
	"reflect"
	"slices"
	"strings"
	"testing"

	"weir/api"
	"weir/cat"
	"weir/model"
)

func names() []string { return strings.Fields(relNames + " " + setNames) }

// sb is the execution of SB in which both reads read the initial writes.
func sb() api.Exec {
	ev := func(kind, thread, index, loc int) api.Event {
		return api.Event{Kind: kind, Thread: thread, Index: index, Loc: loc}
	}
	return api.Exec{
		Events: []api.Event{ev(1, -1, 0, 0), ev(1, -1, 0, 1), ev(2, 0, 0, 0), ev(3, 0, 1, 1), ev(2, 1, 0, 1), ev(3, 1, 1, 0)},
		From:   []int{-1, -1, -1, 1, -1, 0},
		Order:  [][]int{{0, 2}, {1, 4}},
	}
}

// pairsOf is the value of a relation over n numbers.
func pairsOf(n int, l ...int) api.Value {
	v := api.Value{Sort: api.SRel, Rel: api.Rel{N: n}}
	for i := 0; i < len(l); i += 2 {
		v.Rel.Rows[l[i]] |= 1 << l[i+1]
	}
	return v
}

// 21.1: each name, of executions of all lengths.
func TestBase(t *testing.T) {
	roll := dice(211)
	for _, x := range append(someExecs(roll, 3), sb()) {
		w := worldOf(x)
		for _, name := range names() {
			want := w.value(w.start(name))
			if v, ok := model.Base(x, name); v != want || !ok {
				t.Fatalf("Base(%.300s, %s): %v, %v; want %v", fmt.Sprint(x), name, v, ok, want)
			}
		}
	}
}

// 21.1: names that are none.
func TestBaseOfNoNames(t *testing.T) {
	for _, name := range []string{"", "x", "let", "as", "acyclic", "empty", "0", "PO", "w", "Po", "po ", " po", "rfee", "rfx", "r", "rf\n", "f", "I", "__", "com", "ppo", "é", strings.Repeat("po", 1<<20)} {
		for _, x := range []api.Exec{{}, sb()} {
			if v, ok := model.Base(x, name); v != (api.Value{}) || ok {
				t.Errorf("Base of %.80q: %v, %v", name, v, ok)
			}
		}
	}
}

// 21.1: all names of one execution, written out.
func TestBaseWrittenOut(t *testing.T) {
	l := []api.Event{{Kind: 1, Thread: -1, Loc: 0}, {Kind: 3, Thread: 0, Index: 0, Loc: 0, Locked: true}, {Kind: 2, Thread: 0, Index: 0, Loc: 0, Locked: true}, {Kind: 4, Thread: 0, Index: 1, Loc: -1}, {Kind: 2, Thread: 1, Index: 0, Loc: 0}, {Kind: 3, Thread: 1, Index: 1, Loc: 0}}
	x := api.Exec{Events: l, From: []int{-1, 0, -1, -1, -1, 4}, Order: [][]int{{0, 4, 2}}}
	set := func(l ...int) api.Value {
		v := api.Value{Sort: api.SSet}
		for _, a := range l {
			v.Set |= 1 << a
		}
		return v
	}
	for name, want := range map[string]api.Value{
		"po":  pairsOf(6, 1, 2, 1, 3, 2, 3, 4, 5),
		"rmw": pairsOf(6, 1, 2),
		"rf":  pairsOf(6, 0, 1, 4, 5), "rfe": pairsOf(6, 0, 1), "rfi": pairsOf(6, 4, 5),
		"co": pairsOf(6, 0, 4, 0, 2, 4, 2), "coe": pairsOf(6, 0, 4, 0, 2, 4, 2), "coi": pairsOf(6),
		"fr": pairsOf(6, 1, 2, 1, 4, 5, 2), "fre": pairsOf(6, 1, 4, 5, 2), "fri": pairsOf(6, 1, 2),
		"id": pairsOf(6, 0, 0, 1, 1, 2, 2, 3, 3, 4, 4, 5, 5),
		"IW": set(0), "W": set(0, 2, 4), "R": set(1, 5), "M": set(0, 1, 2, 4, 5), "F": set(3), "L": set(1, 2), "_": set(0, 1, 2, 3, 4, 5),
	} {
		if v, ok := model.Base(x, name); v != want || !ok {
			t.Errorf("Base of %s: %v; want %v", name, v, want)
		}
	}
}

// hold holds Eval, Holds and Why of a model against the chapter's words.
func hold(t *testing.T, m api.Model, x api.Exec) (broken int) {
	t.Helper()
	values, why := worldOf(x).eval(m)
	tell := func() string { s, _ := cat.Text(m); return fmt.Sprintf("%.2000s\nof %.500s", s, fmt.Sprint(x)) }
	if v, e := model.Eval(m, x); e != api.OK || !slices.Equal(v, values) {
		t.Fatalf("Eval: %v, %d; want %v: %s", v, e, values, tell())
	}
	if ok, e := model.Holds(m, x); e != api.OK || ok != (len(why) == 0) {
		t.Fatalf("Holds: %v, %d; want %v: %s", ok, e, why, tell())
	}
	if l, e := model.Why(m, x); e != api.OK || !sameBroken(l, why) {
		t.Fatalf("Why: %v, %d; want %v: %s", l, e, why, tell())
	}
	return len(why)
}

// 21.2: every operator, of every name.
func TestEachOperator(t *testing.T) {
	roll := dice(212)
	execs := []api.Exec{{}, sb(), someExec(roll, 64), someExec(roll, 65)}
	for range 3 {
		execs = append(execs, someDense(roll), someExec(roll, 1+roll(9)))
	}
	var terms []string
	for _, a := range strings.Fields(relNames + " 0") {
		terms = append(terms, a, "~"+a, a+"^-1", a+"+", a+"*", a+"?")
		for _, sign := range []string{"|", "&", `\`, ";"} {
			terms = append(terms, a+sign+pick(roll, strings.Fields(relNames+" 0")), pick(roll, strings.Fields(relNames+" 0"))+sign+a)
		}
	}
	for _, a := range strings.Fields(setNames) {
		terms = append(terms, a, "~"+a, "["+a+"]")
		for _, b := range strings.Fields(setNames) {
			for _, sign := range []string{"|", "&", `\`, "*"} {
				terms = append(terms, a+sign+b)
			}
		}
	}
	for _, term := range terms {
		for _, kind := range []string{"empty ", "acyclic ", "irreflexive "} {
			m, err := cat.Parse("t " + kind + term)
			if err != nil { // a set
				continue
			}
			for _, x := range execs {
				hold(t, m, x)
			}
		}
	}
}

// 21.2: greater models of all executions.
func TestSomeModels(t *testing.T) {
	roll := dice(2121)
	count := map[int]int{}
	for _, x := range someExecs(roll, 3) {
		for range 2 {
			count[hold(t, someModel(t, roll, roll(8), 1+roll(6)), x)]++
		}
	}
	for range 1500 {
		count[hold(t, someModel(t, roll, roll(12), 1+roll(9)), someDense(roll))]++
	}
	for n := range 4 {
		if count[n] < 50 {
			t.Errorf("%d models with %d broken checks", count[n], n)
		}
	}
}

// 21.2: as many nodes as may be, in one rule and in many, and lets of lets.
func TestGreatModels(t *testing.T) {
	roll := dice(2122)
	one, many, chain := "t acyclic po", "t", "t let n0 = po"
	for i := range 510 {
		one += pick(roll, []string{" | ", " & ", " ; ", ` \ `}) + pick(roll, strings.Fields(relNames+" 0"))
		many += "\nempty " + pick(roll, names()) + " as x"
		if i%2 == 0 {
			chain += fmt.Sprintf("\nlet n%d = n%d ; %s?", i/2+1, i/2, pick(roll, strings.Fields(relNames)))
		}
	}
	for _, s := range []string{one, many, many + strings.Repeat("\nempty po", 514), chain} {
		m := parsed(t, s)
		for _, x := range []api.Exec{{}, sb(), someExec(roll, 30), someDense(roll)} {
			hold(t, m, x)
		}
	}
	if l, _ := model.Eval(parsed(t, many+strings.Repeat("\nempty po", 514)), sb()); len(l) != 1024 {
		t.Errorf("Eval of 1024 rules: %d", len(l))
	}
}

// 21.2: a name stands for what the rule ahead lets it be, whatever checks are called.
func TestLets(t *testing.T) {
	m := parsed(t, "t empty po & rf as a let a = fr irreflexive a as b let b = a ; po let c = b & b^-1 empty b as a acyclic b as c")
	values, e := model.Eval(m, sb())
	want := []api.Value{pairsOf(6), pairsOf(6, 3, 4, 5, 2), pairsOf(6, 3, 4, 5, 2), pairsOf(6, 3, 5, 5, 3), pairsOf(6, 3, 5, 5, 3), pairsOf(6, 3, 5, 5, 3), pairsOf(6, 3, 5, 5, 3)}
	if e != api.OK || !slices.Equal(values, want) {
		t.Errorf("Eval: %v, %d", values, e)
	}
	if l, e := model.Why(m, sb()); e != api.OK || !sameBroken(l, []api.Broken{{Axiom: 5, Round: []int{3, 5}}, {Axiom: 6, Round: []int{3, 5}}}) {
		t.Errorf("Why: %v, %d", l, e)
	}
}

// 21.2: models without rules, and without checks.
func TestNoChecks(t *testing.T) {
	for _, s := range []string{"t", "t let a = po | po^-1"} {
		m := parsed(t, s)
		for _, x := range []api.Exec{{}, sb()} {
			l, e := model.Eval(m, x)
			if len(l) != len(m.Rules) || e != api.OK {
				t.Errorf("Eval of %s: %v, %d", s, l, e)
			}
			if ok, e := model.Holds(m, x); !ok || e != api.OK {
				t.Errorf("Holds of %s: %v, %d", s, ok, e)
			}
			if l, e := model.Why(m, x); len(l) != 0 || e != api.OK {
				t.Errorf("Why of %s: %v, %d", s, l, e)
			}
		}
	}
}

// 21.2: what shows that a check does not hold, written out; 65 events are taken for none.
func TestRounds(t *testing.T) {
	x := api.Exec{Events: make([]api.Event, 64), Order: [][]int{{63, 63}, {5, 9}, {9, 7, 5}}}
	for s, want := range map[string][]int{
		"t acyclic co": {63}, "t acyclic co \\ id": {5, 9}, "t irreflexive co": {63}, "t empty co": {5, 9}, "t empty co & id": {63, 63},
		"t empty [_]": {0, 0}, "t empty _": {0}, "t empty ~R": {0}, "t empty ~0": {0, 0}, "t irreflexive co ; co": {5}, "t irreflexive ~0": {0},
		"t empty R": nil, "t empty 0": nil, "t acyclic 0": nil, "t irreflexive 0": nil, "t irreflexive co \\ id": nil, "t empty ~_": nil, "t empty _ & ~_": nil,
	} {
		l, e := model.Why(parsed(t, s), x)
		if e != api.OK || len(l) != min(len(want), 1) || len(l) == 1 && (l[0].Axiom != 0 || !slices.Equal(l[0].Round, want)) {
			t.Errorf("Why of %s: %v, %d; want %v", s, l, e, want)
		}
		y := x
		y.Events = make([]api.Event, 65)
		if l, e := model.Why(parsed(t, s), y); len(l) != 0 || e != api.OK {
			t.Errorf("Why of %s, of 65 events: %v, %d", s, l, e)
		}
		if ok, e := model.Holds(parsed(t, s), y); !ok || e != api.OK {
			t.Errorf("Holds of %s, of 65 events: %v, %d", s, ok, e)
		}
	}
}

// 21.2: cat.Check's error, and nothing beside it.
func TestWrongModels(t *testing.T) {
	term := func(l ...api.Term) []api.Term { return l }
	rule := func(kind int, name string, l ...api.Term) api.Model {
		return api.Model{Name: "t", Rules: []api.Rule{{Kind: api.REmpty, Terms: term(api.Term{Op: api.XName, Name: "_"})}, {Kind: kind, Name: name, Terms: l}}}
	}
	po, w := api.Term{Op: api.XName, Name: "po"}, api.Term{Op: api.XName, Name: "W"}
	long := rule(api.REmpty, "")
	long.Rules = slices.Repeat(long.Rules[:1], 1025)
	deep := []api.Term{po}
	for i := range 65 {
		deep = append(deep, api.Term{Op: api.XNot, A: i})
	}
	for what, m := range map[string]api.Model{
		"nothing": {}, "no name": {Rules: rule(api.RLet, "a", po).Rules}, "a word as its name": {Name: "let"},
		"too long": long, "too deep": rule(api.REmpty, "", deep...), "no nodes": rule(api.RLet, "a"), "no kind": rule(0, "a", po), "no such kind": rule(5, "a", po),
		"two terms": rule(api.REmpty, "", po, po), "no Op": rule(api.REmpty, "", api.Term{}), "no such Op": rule(api.REmpty, "", api.Term{Op: 14}), "an Op below 0": rule(api.REmpty, "", api.Term{Op: math.MinInt}),
		"A that is not there": rule(api.REmpty, "", po, api.Term{Op: api.XNot, A: 1}), "A below 0": rule(api.REmpty, "", po, api.Term{Op: api.XNot, A: -1}), "B that is not there": rule(api.REmpty, "", po, po, api.Term{Op: api.XUnion, A: 0, B: math.MaxInt}),
		"no such name": rule(api.REmpty, "", api.Term{Op: api.XName, Name: "a"}), "itself": rule(api.RLet, "a", api.Term{Op: api.XName, Name: "a"}),
		"a set acyclic": rule(api.RAcyclic, "", w), "two sorts": rule(api.REmpty, "", po, w, api.Term{Op: api.XUnion, A: 0, B: 1}),
		"let twice": rule(api.RLet, "rf", po), "a name that is none": rule(api.RAcyclic, "a b", po),
	} {
		_, want := cat.Check(m)
		if want == api.OK {
			t.Fatalf("%s: nothing is wrong", what)
		}
		for _, x := range []api.Exec{{}, sb(), {Events: make([]api.Event, 65)}} {
			if l, e := model.Eval(m, x); l != nil || e != want {
				t.Errorf("Eval of %s: %v, %d; want %d", what, l, e, want)
			}
			if ok, e := model.Holds(m, x); ok || e != want {
				t.Errorf("Holds of %s: %v, %d; want %d", what, ok, e, want)
			}
			if l, e := model.Why(m, x); l != nil || e != want {
				t.Errorf("Why of %s: %v, %d; want %d", what, l, e, want)
			}
		}
	}
}

// 21.2: models in which one thing is changed: Check's error, or what the words say.
func TestSpoiltModels(t *testing.T) {
	roll := dice(2123)
	seen := map[api.Errno]int{}
	for range 4000 {
		m := someModel(t, roll, 1+roll(4), 4)
		r := &m.Rules[roll(len(m.Rules))]
		n := &r.Terms[roll(len(r.Terms))]
		switch roll(6) {
		case 0:
			n.Op = roll(15)
		case 1:
			n.A += roll(3) - 1
		case 2:
			n.Name = pick(roll, []string{"", "po", "W", "n0", "let"})
		case 3:
			r.Kind = roll(6)
		case 4:
			r.Name = pick(roll, []string{"", "po", "n0", "1"})
		case 5:
			r.Terms = r.Terms[:roll(len(r.Terms))]
		}
		x := someDense(roll)
		_, want := cat.Check(m)
		seen[want]++
		if want == api.OK {
			hold(t, m, x)
			continue
		}
		l, e := model.Eval(m, x)
		ok, f := model.Holds(m, x)
		why, g := model.Why(m, x)
		if l != nil || ok || why != nil || e != want || f != want || g != want {
			t.Fatalf("%v: %v %d, %v %d, %v %d; want %d", m, l, e, ok, f, why, g, want)
		}
	}
	if seen[api.OK] < 300 || seen[api.ErrModel] < 300 || seen[api.ErrSort] < 50 || seen[api.ErrScope] < 20 {
		t.Errorf("%v", seen)
	}
}

// R4: what is handed in stays as it is, and answers share no memory.
func TestMemory(t *testing.T) {
	roll := dice(2124)
	for range 300 {
		m, x := wide(someModel(t, roll, 1+roll(6), 4)), wide(someDense(roll))
		before := whole(reflect.ValueOf(m)) + whole(reflect.ValueOf(x))
		values, _ := model.Eval(m, x)
		again, _ := model.Eval(m, x)
		why, _ := model.Why(m, x)
		whyAgain, _ := model.Why(m, x)
		model.Holds(m, x)
		model.Base(x, "fr")
		if after := whole(reflect.ValueOf(m)) + whole(reflect.ValueOf(x)); after != before {
			t.Fatalf("%.500s has become %.500s", before, after)
		}
		apart(t, m, x, values, again, why, whyAgain)
	}
}

// 21.3: the texts, written out; the models are what is read of them.
func TestKnown(t *testing.T) {
	for kind, want := range map[int]string{
		api.MSC:  "SC\nacyclic po & loc | rf | co | fr as uniproc\nempty rmw & (fr ; co) as atomic\nacyclic po | rf | co | fr as sc\n",
		api.MTSO: tsoLike("TSO", `po & (M * M \ W * R)`, "tso"),
		api.MPSO: tsoLike("PSO", "po & R * M", "pso"),
	} {
		if s, e := model.Text(kind); s != want || e != api.OK {
			t.Errorf("Text(%d): %q, %d; want %q", kind, s, e, want)
		}
		m, e := model.Known(kind)
		if e != api.OK || !reflect.DeepEqual(m, parsed(t, want)) {
			t.Errorf("Known(%d): %v, %d", kind, m, e)
		}
		if s, e := cat.Text(m); s != want || e != api.OK {
			t.Errorf("cat.Text of Known(%d): %q, %d", kind, s, e)
		}
		again, _ := model.Known(kind)
		apart(t, m, again)
	}
}

// 21.3: numbers of no model.
func TestUnknown(t *testing.T) {
	for _, kind := range []int{math.MinInt, -1, 0, 4, 5, 64, math.MaxInt} {
		if m, e := model.Known(kind); m.Name != "" || m.Rules != nil || e != api.ErrRange {
			t.Errorf("Known(%d): %v, %d", kind, m, e)
		}
		if s, e := model.Text(kind); s != "" || e != api.ErrRange {
			t.Errorf("Text(%d): %q, %d", kind, s, e)
		}
	}
}

// The chapter's examples.
func TestExamples(t *testing.T) {
	if l, e := model.Eval(parsed(t, "t let a = po & W * R"), sb()); e != api.OK || !slices.Equal(l, []api.Value{pairsOf(6, 2, 3, 4, 5)}) {
		t.Errorf("1: %v, %d", l, e)
	}
	if v, ok := model.Base(sb(), "fre"); !ok || v != pairsOf(6, 3, 4, 5, 2) {
		t.Errorf("1: %v", v)
	}
	sc, _ := model.Known(api.MSC)
	tso, _ := model.Known(api.MTSO)
	if ok, e := model.Holds(tso, sb()); !ok || e != api.OK {
		t.Errorf("2: %v, %d", ok, e)
	}
	for _, c := range []struct {
		m    api.Model
		want []api.Broken
	}{
		{sc, []api.Broken{{Axiom: 2, Round: []int{2, 3, 4, 5}}}},
		{parsed(t, "t empty R as none"), []api.Broken{{Axiom: 0, Round: []int{3}}}},
		{parsed(t, "t irreflexive po ; fr"), nil},
		{parsed(t, "t irreflexive po ; fr ; po ; fr"), []api.Broken{{Axiom: 0, Round: []int{2}}}},
	} {
		if l, e := model.Why(c.m, sb()); e != api.OK || !sameBroken(l, c.want) {
			t.Errorf("%v: %v, %d; want %v", c.m, l, e, c.want)
		}
	}
}
