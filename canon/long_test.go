package canon_test

import (
	"fmt"
	"slices"
	"strings"
	"testing"

	"weir/api"
	"weir/canon"
	"weir/print"
)

// longTest is a test whose form's text has so many bytes: by rows of one thread, and by the digits of two values in the condition.
func longTest(t *testing.T, threads, bytes int, name string) api.Test {
	t.Helper()
	x := api.Test{Name: "long", Threads: make([][]api.Instr, threads), Quant: api.Exists, Cond: api.Cond{{Op: api.CIs, Ref: reg(0, name), Value: 1}, {Op: api.CIs, Ref: reg(0, name), Value: 1}, {Op: api.CAnd, B: 1}}}
	row := api.Instr{Op: api.OMovImm, Reg: name, Imm: 1}
	length := func(n int) int {
		x.Threads[0] = slices.Repeat([]api.Instr{row}, n)
		f, _ := formBy(t, x, numbers(threads))
		return len(textOf(t, f))
	}
	one := length(1)
	per := length(2) - one
	n := 1 + (bytes-one)/per
	x.Threads[0] = slices.Repeat([]api.Instr{row}, n)
	if per > 36 {
		t.Fatalf("rows of %d bytes are too wide", per)
	}
	for i := range (bytes - one) % per {
		x.Cond[i%2].Value *= 10
	}
	return x
}

// 27.2: a form of MaxText bytes has a text, one of a byte more none, whatever the test's own text is.
func TestLongForms(t *testing.T) {
	for threads := 1; threads <= 4; threads++ {
		for _, name := range []string{"EAX", "R8", "R15"} { // R8 is a byte shorter than its new name
			x := longTest(t, threads, api.MaxText, name)
			f, r, e := canon.Form(x)
			if e != api.OK || len(textOf(t, f)) != api.MaxText || len(f.Threads) != threads || r.Regs[0][0] != (api.Change{From: name, To: "EAX"}) {
				t.Errorf("%d threads, %s: %d", threads, name, e)
			}
			x = longTest(t, threads, api.MaxText+1, name)
			if s, e := print.Text(x); name == "R8" && (e != api.OK || len(s) >= api.MaxText) {
				t.Errorf("%d threads: its own text: %d", threads, e)
			}
			if f, r, e := canon.Form(x); e != api.ErrLong || !same(f, api.Test{}) || !same(r, api.Renaming{}) {
				t.Errorf("%d threads, %s, a byte too many: %d", threads, name, e)
			}
		}
	}
	checkRefused(t, "a byte too many", longTest(t, 2, api.MaxText+1, "R8"), api.ErrLong)
	checkRefused(t, "far too many bytes", longTest(t, 3, 3*api.MaxText, "EAX"), api.ErrLong)
}

// 27.2: what the form has not, or has under a shorter name, does not make it too long.
func TestLongNames(t *testing.T) {
	x := sb(t, "x", "y", bothNought)
	want, _, _ := canon.Form(x)
	x.Doc = strings.Repeat("d", 2*api.MaxText)
	if _, e := print.Text(x); e != api.ErrLong {
		t.Fatalf("its own text: %d", e)
	}
	if f, _, e := canon.Form(x); e != api.OK || !same(f, want) {
		t.Errorf("%v, %d", f, e)
	}
	long := strings.Repeat("n", 64)
	y := api.Test{Name: "t", Threads: [][]api.Instr{{{Op: api.OStoreImm, Loc: long}}}, Quant: api.Exists, Cond: api.Cond{{Op: api.CTrue}}}
	for range 1 << 14 { // the rows are as wide as the long name
		y.Threads[0] = append(y.Threads[0], api.Instr{Op: api.OMovImm, Reg: "EAX"})
	}
	if _, e := print.Text(y); e != api.ErrLong {
		t.Fatalf("its own text: %d", e)
	}
	if f, r, e := canon.Form(y); e != api.OK || len(f.Threads[0]) != 1<<14+1 || r.Locs[0] != (api.Change{From: long, To: "a"}) {
		t.Errorf("%v, %d", r, e)
	}
}

// 27.1: Apply asks for no text, and so for no length.
func TestLongApply(t *testing.T) {
	x := longTest(t, 2, 3*api.MaxText, "EBX")
	r := api.Renaming{Threads: []int{1, 0}, Regs: [][]api.Change{{{From: "EBX", To: "R9"}}, nil}}
	for i := range 1 << 16 { // changes of nothing
		r.Locs = append(r.Locs, api.Change{From: fmt.Sprintf("l%06d", i)})
	}
	y, e := canon.Apply(x, r)
	if e != api.OK || len(y.Threads[1]) != len(x.Threads[0]) || len(y.Threads[0]) != 0 || y.Cond[0].Ref != reg(1, "R9") {
		t.Fatalf("%d", e)
	}
	for _, in := range y.Threads[1] {
		if in != (api.Instr{Op: api.OMovImm, Reg: "R9", Imm: 1}) {
			t.Fatalf("%v", in)
		}
	}
	checkRefused(t, "a long test", y, api.ErrLong)
}
