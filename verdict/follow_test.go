package verdict_test

import (
	"fmt"
	"slices"
	"strings"
	"testing"

	"weir/api"
	"weir/cond"
	"weir/litmus"
	"weir/print"
	"weir/prog"
	"weir/state"
	"weir/verdict"
)

// okOf is what Ok answers of a right test and a set that fits.
func okOf(t *testing.T, x api.Test, l []api.Final) bool {
	t.Helper()
	ok, e := verdict.Ok(x, l)
	if e != api.OK {
		t.Fatalf("Ok(%v, %v): %d", x, l, e)
	}
	return ok
}

func asking(x api.Test, quant int, c api.Cond) api.Test {
	x.Quant, x.Cond = quant, c
	return x
}

// 23.7: how the three quantifiers stand to each other.
func TestQuantifiers(t *testing.T) {
	roll := dice(237)
	yes, no := [4]int{}, [4]int{}
	for range 2000 {
		x := someTest(roll)
		l := someSet(roll, len(prog.Names(progOf(t, x))), pick(roll, []int{0, 1, 3, 20}))
		for quant := api.Exists; quant <= api.Forall; quant++ {
			if okOf(t, asking(x, quant, x.Cond), l) {
				yes[quant]++
			} else {
				no[quant]++
			}
		}
		if okOf(t, asking(x, api.Exists, x.Cond), l) == okOf(t, asking(x, api.NotExists, x.Cond), l) {
			t.Fatalf("exists is ~exists of %v, %v", x, l)
		}
		if okOf(t, asking(x, api.Forall, x.Cond), l) != okOf(t, asking(x, api.NotExists, not(x.Cond, true)), l) {
			t.Fatalf("forall is not ~exists of not, of %v, %v", x, l)
		}
	}
	if slices.Min(yes[1:]) < 300 || slices.Min(no[1:]) < 300 {
		t.Errorf("Ok: %v, No: %v", yes, no)
	}
}

// 23.7: more members.
func TestMore(t *testing.T) {
	roll := dice(238)
	turned := 0
	for range 2000 {
		x := someTest(roll)
		n := len(prog.Names(progOf(t, x)))
		l, m := someSet(roll, n, 4), someSet(roll, n, 4)
		more, e := state.Union(l, m)
		if e != api.OK {
			t.Fatalf("Union(%v, %v): %d", l, m, e)
		}
		a, b := okOf(t, x, l), okOf(t, x, more)
		if x.Quant == api.Exists && a && !b || x.Quant != api.Exists && !a && b {
			t.Fatalf("Ok(%v): %v of %v; %v of %v", x, a, l, b, more)
		}
		if a != b {
			turned++
		}
	}
	if turned < 100 {
		t.Errorf("%d turned", turned)
	}
}

// 23.7, W1: what a report does not hang on: Doc, the order of settings, settings to 0 of what an instruction names, the order of what is watched, and how the file is written.
func TestReportHangs(t *testing.T) {
	roll := dice(239)
	for range 500 {
		x := someTest(roll)
		l := someSet(roll, len(prog.Names(progOf(t, x))), 8)
		want := reportOf(t, x, l)
		y := x
		y.Doc = "another doc"
		y.Inits = some(roll, x.Inits, len(x.Inits))
		y.Watch = some(roll, x.Watch, len(x.Watch))
		if got := reportOf(t, y, l); got != want {
			t.Fatalf("Report(%v): %s; of %v: %s", y, got, x, want)
		}
		file, e := print.Text(x)
		if e != api.OK {
			t.Fatalf("print.Text(%v): %d", x, e)
		}
		z, err := litmus.Parse(strings.ReplaceAll(file, " ;\n", "\t(* a (* b *) *) ;\n\n"))
		if err != nil {
			t.Fatalf("%s: %v", file, err)
		}
		if got := reportOf(t, z, l); got != want {
			t.Fatalf("Report of what is read: %s; want %s", got, want)
		}
	}
	x := sb(t, "exists "+bothZero)
	want := reportOf(t, x, four())
	for _, inits := range [][]api.Init{nil, {{Ref: loc("y")}}, {{Ref: reg(1, "EAX")}, {Ref: loc("y")}, {Ref: reg(0, "EAX")}}} {
		x.Inits = inits
		if got := reportOf(t, x, four()); got != want {
			t.Errorf("Report with %v: %s; want %s", inits, got, want)
		}
	}
}

// 23.7: what it does hang on.
func TestReportTells(t *testing.T) {
	x := sb(t, "exists "+bothZero)
	want := reportOf(t, x, four())
	for what, turn := range map[string]func(*api.Test){
		"Name":  func(x *api.Test) { x.Name = "BS" },
		"Quant": func(x *api.Test) { x.Quant = api.Forall },
		"Cond":  func(x *api.Test) { x.Cond[0].Value = 1 },
		"Watch": func(x *api.Test) { x.Watch = []api.Ref{loc("x")} },
	} {
		y := wide(x)
		turn(&y)
		if got := reportOf(t, y, four()); got == want {
			t.Errorf("Report with another %s is the same: %s", what, got)
		}
	}
	if got := reportOf(t, x, four()[1:]); got == want {
		t.Errorf("Report of another set is the same: %s", got)
	}
}

// W6, 23.2: Split cuts the set in two, and the counts are its sizes; a condition that says the same holds of the same.
func TestSplit(t *testing.T) {
	roll := dice(2310)
	plainer := 0
	for range 1000 {
		x := someTest(roll)
		l := someSet(roll, len(prog.Names(progOf(t, x))), 12)
		with, without, e := verdict.Split(x, l)
		if e != api.OK {
			t.Fatalf("Split(%v, %v): %d", x, l, e)
		}
		both, e := state.Union(with, without)
		none, e2 := state.Meet(with, without)
		if e != api.OK || e2 != api.OK || !slices.Equal(both, l) || len(none) > 0 {
			t.Fatalf("Split(%v, %v): %v, %v", x, l, with, without)
		}
		n, k, _ := verdict.Count(x, l)
		if n != len(with) || k != len(without) {
			t.Fatalf("Count(%v, %v): %d, %d; Split: %v, %v", x, l, n, k, with, without)
		}
		plain, e := cond.Plain(x.Cond)
		if e != api.OK {
			continue
		}
		if !slices.Equal(plain, x.Cond) {
			plainer++
		}
		for _, c := range []struct {
			c    api.Cond
			with []api.Final
			rest []api.Final
		}{{plain, with, without}, {not(x.Cond, true), without, with}, {not(not(x.Cond, true), true), with, without}} {
			if a, b, e := verdict.Split(asking(x, x.Quant, c.c), l); e != api.OK || !slices.Equal(a, c.with) || !slices.Equal(b, c.rest) {
				t.Fatalf("Split by %v: %v, %v, %d; want %v, %v", c.c, a, b, e, c.with, c.rest)
			}
		}
	}
	if plainer < 100 {
		t.Errorf("%d were made plainer", plainer)
	}
}

// 23.1, 23.2: Value answers what Holds asks for.
func TestValueHolds(t *testing.T) {
	roll := dice(2311)
	for range 500 {
		x := someTest(roll)
		p := progOf(t, x)
		for _, f := range someSet(roll, len(prog.Names(p)), 3) {
			for _, r := range prog.Names(p) {
				v, e := verdict.Value(p, f, r)
				if e != api.OK {
					t.Fatalf("Value(%v, %v, %v): %d", p, f, r, e)
				}
				for _, w := range []int64{v, v + 1, -v, ^v} {
					if ok, e := verdict.Holds(asking(x, x.Quant, api.Cond{is(r, w)}), f); ok != (v == w) || e != api.OK {
						t.Fatalf("Holds(%s=%d, %v): %v, %d; the value is %d", written(r), w, f, ok, e, v)
					}
				}
			}
		}
	}
}

// W10, in part: threads that change places and names that change are seen in no verdict and no count.
func TestNames(t *testing.T) {
	files := []string{
		`X86 t { a=1; 0:EAX=2 } P0 | P1 ; MOV [b],$1 | MOV EBX,[a] ; %s`,
		`X86 t { y=1; 1:ECX=2 } P0 | P1 ; MOV EDX,[y] | MOV [x],$1 ; %s`,
	}
	questions := [][2]string{
		{"0:EAX=2", "1:ECX=2"}, {`1:EBX=1 /\ b=0`, `0:EDX=1 /\ x=0`}, {`~(a=1 \/ 0:EAX=0)`, `~(y=1 \/ 1:ECX=0)`},
	}
	swap := func(l []api.Final) []api.Final { // 0:EAX 1:EBX a b becomes 0:EDX 1:ECX x y
		var m []api.Final
		for _, f := range l {
			m = append(m, of(f.V[1], f.V[0], f.V[3], f.V[2]))
		}
		return setOf(m)
	}
	roll := dice(2312)
	for _, q := range questions {
		for _, quant := range []string{"exists", "~exists", "forall"} {
			x, y := parsed(t, fmt.Sprintf(files[0], quant+" "+q[0])), parsed(t, fmt.Sprintf(files[1], quant+" "+q[1]))
			for range 50 {
				l := someSet(roll, 4, 6)
				n, k, _ := verdict.Count(x, l)
				n2, k2, _ := verdict.Count(y, swap(l))
				if n != n2 || k != k2 || okOf(t, x, l) != okOf(t, y, swap(l)) {
					t.Fatalf("%s of %v: %d, %d; %s of the same: %d, %d", q[0], l, n, k, q[1], n2, k2)
				}
			}
		}
	}
}
