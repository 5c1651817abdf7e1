package allow_test

import (
	"fmt"
	"slices"
	"testing"

	"weir/api"
	"weir/axiom"
	"weir/cand"
	"weir/explore"
	"weir/model"
	"weir/reduce"
	"weir/state"
)

// candidates is all candidates of a program.
func candidates(t *testing.T, p api.Prog) []api.Exec {
	t.Helper()
	it, e := cand.All(p)
	if e != api.OK {
		t.Fatalf("cand.All(%v): %d", p, e)
	}
	return slices.Collect(it)
}

// says is those of them that a model allows, by the chapter's words.
func says(t *testing.T, m api.Model, p api.Prog) []api.Exec {
	t.Helper()
	var l []api.Exec
	for _, x := range candidates(t, p) {
		ok, e := model.Holds(m, x)
		if e != api.OK {
			t.Fatalf("model.Holds(%v): %d", m, e)
		}
		if ok {
			l = append(l, x)
		}
	}
	return l
}

// saysKnown is those of them that obey one of the three models.
func saysKnown(t *testing.T, kind int, p api.Prog) []api.Exec {
	t.Helper()
	var l []api.Exec
	for _, x := range candidates(t, p) {
		if ok, e := axiom.Holds(kind, x); e != api.OK {
			t.Fatalf("axiom.Holds(%d): %d", kind, e)
		} else if ok {
			l = append(l, x)
		}
	}
	return l
}

// endOf is a candidate's final state: what registers have, and what the last write to each location wrote.
func endOf(x api.Exec) api.Final {
	var f api.Final
	add := func(v int64) {
		f.V[f.N] = v
		f.N++
	}
	for _, regs := range x.Regs {
		for _, v := range regs {
			add(v)
		}
	}
	for _, writes := range x.Order {
		add(x.Values[writes[len(writes)-1]])
	}
	return f
}

// ends is the final states of some candidates, as a set.
func ends(l []api.Exec) []api.Final {
	var set []api.Final
	for _, x := range l {
		if f := endOf(x); !slices.Contains(set, f) {
			set = append(set, f)
		}
	}
	slices.SortFunc(set, state.Compare)
	return set
}

// reached is the final states to which the whole machine comes, not the lean one.
func reached(t *testing.T, kind int, p api.Prog) []api.Final {
	t.Helper()
	m, e := reduce.Full(kind, p)
	if e != api.OK {
		t.Fatalf("reduce.Full(%d, %v): %d", kind, p, e)
	}
	l, _, e := explore.Explore(m, 1<<20)
	if e != api.OK {
		t.Fatalf("explore.Explore of %v by %d: %d", p, kind, e)
	}
	return l
}

// told is an execution as a text: a list that is empty is the same as none.
func told(x api.Exec) string { return fmt.Sprint(x) }

// tells is executions as texts.
func tells(l []api.Exec) []string {
	var texts []string
	for _, x := range l {
		texts = append(texts, told(x))
	}
	return texts
}
