package canon_test

import (
	"math"
	"slices"
	"testing"

	"weir/api"
	"weir/canon"
	"weir/litmus"
	"weir/prog"
	"weir/reduce"
	"weir/state"
	"weir/verdict"
)

// 27.4, W10: tests that are the same but for names have one form; it is its own.
func TestOneForm(t *testing.T) {
	roll := dice(274)
	tests := knownTests(t)
	for range 1000 {
		tests = append(tests, someTest(t, roll, large()), someTest(t, roll, small()))
	}
	for _, x := range tests {
		f, _, e := canon.Form(x)
		if e != api.OK {
			t.Fatalf("Form(%v): %d", x, e)
		}
		n, _ := canon.Orders(x)
		r := someRenaming(roll, x)
		y, e := canon.Apply(x, r)
		if w, ce := prog.Check(y); e != api.OK || ce != api.OK {
			t.Fatalf("Apply(%v, %v): %d; %v, %d", x, r, e, w, ce)
		}
		shuffled := x
		shuffled.Inits = some(roll, x.Inits, len(x.Inits))
		for _, other := range []api.Test{y, shuffled, f, likened(t, roll, x), likened(t, roll, f)} {
			g, _, e := canon.Form(other)
			if k, _ := canon.Orders(other); e != api.OK || !same(f, g) || k != n {
				t.Fatalf("%s has the form\n%s of %d orders; the same test\n%s has the form\n%sof %d", textOf(t, other), textOf(t, g), k, textOf(t, x), textOf(t, f), n)
			}
			if ok, e := canon.Same(x, other); e != api.OK || !ok {
				t.Fatalf("Same(%v, %v): %v, %d", x, other, ok, e)
			}
		}
	}
}

// 27.2, 27.4: a form is a test that has its own text; the renaming is right, says all names, and makes the form but for settings, Name and Doc.
func TestFormRenaming(t *testing.T) {
	roll := dice(275)
	for i := range 2000 {
		x := someTest(t, roll, []size{large(), small()}[i%2])
		f, r, e := canon.Form(x)
		if w, ce := prog.Check(f); e != api.OK || ce != api.OK || f.Name != "t" || f.Doc != "" {
			t.Fatalf("Form(%v): %v, %d, %v, %d", x, f, e, w, ce)
		}
		if y, err := litmus.Parse(textOf(t, f)); err != nil || !same(y, f) {
			t.Fatalf("%s is %v; want %v", textOf(t, f), y, f)
		}
		y, e := canon.Apply(x, r)
		if e != api.OK {
			t.Fatalf("Apply(%v, %v): %d", x, r, e)
		}
		regs, locs := namesOf(x)
		for k, l := range append(regs, locs) {
			changes := append(slices.Clone(r.Regs), r.Locs)[k]
			if len(changes) != len(l) || !slices.EqualFunc(changes, l, func(c api.Change, s string) bool { return c.From == s }) {
				t.Fatalf("%v: names of %v", r, x)
			}
		}
		y.Name, y.Doc, y.Inits = f.Name, f.Doc, f.Inits
		if !same(y, f) {
			t.Fatalf("%v and its names %v make %v; want %v", x, r, y, f)
		}
	}
}

// ends is the final states of a test, each as the values of some references.
func ends(t *testing.T, model int, x api.Test, refs []api.Ref) []api.Final {
	t.Helper()
	p, e := prog.Of(x)
	if e != api.OK {
		t.Fatalf("Of(%v): %d", x, e)
	}
	l, _, e := reduce.Finals(model, p, math.MaxInt)
	if e != api.OK || len(l) == 0 {
		t.Fatalf("Finals(%d, %v): %d, %d", model, p, len(l), e)
	}
	var out []api.Final
	for _, f := range l {
		g := api.Final{N: len(refs)}
		for i, r := range refs {
			k, ok := prog.Index(p, r)
			if !ok {
				t.Fatalf("%v has no %v", x, r)
			}
			g.V[i] = f.V[k]
		}
		out = append(out, g)
	}
	return state.Sort(out)
}

// ruled is what each model's final states say of a test's question: how many have the condition, how many have not, and whether that is what is asked for.
func ruled(t *testing.T, model int, x api.Test) [3]int {
	t.Helper()
	p, _ := prog.Of(x)
	l, _, _ := reduce.Finals(model, p, math.MaxInt)
	n, k, e := verdict.Count(x, l)
	ok, f := verdict.Ok(x, l)
	if e != api.OK || f != api.OK {
		t.Fatalf("Count(%v): %d, %d", x, e, f)
	}
	if ok {
		return [3]int{n, k, 1}
	}
	return [3]int{n, k, 0}
}

// renamedRef is the reference that a reference becomes, read from its text.
func renamedRef(t *testing.T, r api.Renaming, x api.Ref) api.Ref {
	t.Helper()
	y, err := litmus.Parse("X86 t {" + newRef(r, x) + "=0} P0; exists true")
	if err != nil {
		t.Fatalf("%v, %v: %v", r, x, err)
	}
	return y.Inits[0].Ref
}

// 27.4, W10: a renamed test and a test's form end as the test does, value by value, and have its counts and verdicts.
func TestEnds(t *testing.T) {
	roll := dice(276)
	tests := knownTests(t)[:12]
	for range 900 {
		x := someTest(t, roll, size{3, 3, 3, 4, []int64{0, 0, 1, 2, -1}})
		if instrs := len(slices.Concat(x.Threads...)); instrs <= 10 {
			tests = append(tests, x)
		}
	}
	several := 0
	for _, x := range tests {
		f, by, e := canon.Form(x)
		r := someRenaming(roll, x)
		y, ye := canon.Apply(x, r)
		if e != api.OK || ye != api.OK {
			t.Fatalf("%v: %d, %d", x, e, ye)
		}
		refs := refsOf(x)
		var inForm, inOther []api.Ref
		for _, ref := range refs {
			inForm, inOther = append(inForm, renamedRef(t, by, ref)), append(inOther, renamedRef(t, r, ref))
		}
		for _, model := range []int{api.MSC, api.MTSO, api.MPSO} {
			want, said := ends(t, model, x, refs), ruled(t, model, x)
			if len(want) > 1 {
				several++
			}
			if got := ends(t, model, f, inForm); !slices.Equal(got, want) || ruled(t, model, f) != said {
				t.Errorf("by model %d\n%sends otherwise than\n%s", model, textOf(t, f), textOf(t, x))
			}
			if got := ends(t, model, y, inOther); !slices.Equal(got, want) || ruled(t, model, y) != said {
				t.Errorf("by model %d\n%sends otherwise than\n%s", model, textOf(t, y), textOf(t, x))
			}
		}
	}
	if several < 300 {
		t.Errorf("%d with several ends", several)
	}
}
