package hist_test

import (
	"fmt"
	"math"
	"slices"
	"strings"
	"testing"

	"weir/api"
	"weir/hist"
	"weir/prog"
)

// textOf is the log of a right histogram.
func textOf(t *testing.T, h api.Hist) string {
	t.Helper()
	s, e := hist.Text(h)
	if e != api.OK {
		t.Fatalf("Text(%s): %d", short(h), e)
	}
	return s
}

// histOf is what Of answers of a right test and its final states.
func histOf(t *testing.T, x api.Test, runs []api.Final) api.Hist {
	t.Helper()
	h, e := hist.Of(x, runs)
	if e != api.OK {
		t.Fatalf("Of(%s): %d", short(x, runs), e)
	}
	return h
}

// lines is a text in which | stands for each line feed, and ? for SB's condition.
func lines(s string) string {
	return strings.NewReplacer("|", "\n", "?", "0:EAX=0 /\\ 1:EAX=0").Replace(s)
}

// The chapter's examples 1 to 3.
func TestExamples(t *testing.T) {
	x := sb(t, "exists "+bothZero)
	h := histOf(t, x, []api.Final{of(0, 1, 1, 1), of(1, 0, 1, 1), of(0, 1, 1, 1)})
	if !same(h, seen()) {
		t.Errorf("Of: %v", h)
	}
	want := lines("Test SB Allowed|Histogram (2 states)|2     :>0:EAX=0; 1:EAX=1;|1     :>0:EAX=1; 1:EAX=0;|No||Witnesses|Positive: 0, Negative: 3|Condition exists ? is NOT validated|Observation SB Never 0 3|")
	if textOf(t, h) != want {
		t.Errorf("Text: %q; want %q", textOf(t, h), want)
	}
	strange, missed, e := hist.Hold(h, x, four())
	if e != api.OK || len(strange) != 0 || !slices.Equal(missed, []api.Final{of(0, 0), of(1, 1)}) {
		t.Errorf("Hold against TSO: %v, %v, %d", strange, missed, e)
	}
	once, e := hist.Add(h, histOf(t, x, four()[:1]))
	if e != api.OK {
		t.Fatalf("Add: %d", e)
	}
	want = lines("Test SB Allowed|Histogram (3 states)|1     *>0:EAX=0; 1:EAX=0;|2     :>0:EAX=0; 1:EAX=1;|1     :>0:EAX=1; 1:EAX=0;|Ok||Witnesses|Positive: 1, Negative: 3|Condition exists ? is validated|Observation SB Sometimes 1 3|")
	if textOf(t, once) != want {
		t.Errorf("Text: %q; want %q", textOf(t, once), want)
	}
	strange, missed, e = hist.Hold(once, x, four()[1:])
	if e != api.OK || !slices.Equal(strange, []api.Final{of(0, 0)}) || !slices.Equal(missed, []api.Final{of(1, 1)}) {
		t.Errorf("Hold against SC: %v, %v, %d", strange, missed, e)
	}
}

// refused tells that no call takes a histogram that is not right, whatever else is handed in.
func refused(t *testing.T, what string, h api.Hist) {
	t.Helper()
	if e := hist.Check(h); e != api.ErrHist {
		t.Errorf("Check, %s: %d", what, e)
	}
	if n, k, e := hist.Counts(h); n != 0 || k != 0 || e != api.ErrHist {
		t.Errorf("Counts, %s: %d, %d, %d", what, n, k, e)
	}
	if s, e := hist.Text(h); s != "" || e != api.ErrHist {
		t.Errorf("Text, %s: %q, %d", what, s, e)
	}
	for _, other := range []api.Hist{seen(), none(), h, {Name: "other", Quant: 1, Cond: api.Cond{{Op: api.CTrue}}}} {
		if g, e := hist.Add(h, other); !isZero(g) || e != api.ErrHist {
			t.Errorf("Add, %s: %v, %d", what, g, e)
		}
		if g, e := hist.Add(other, h); !isZero(g) || e != api.ErrHist {
			t.Errorf("Add, %s as the second one: %v, %d", what, g, e)
		}
	}
	for _, x := range []api.Test{sb(t, "exists "+bothZero), {}} {
		for _, l := range [][]api.Final{nil, four(), {of(1)}} {
			if a, b, e := hist.Hold(h, x, l); len(a) != 0 || len(b) != 0 || e != api.ErrHist {
				t.Errorf("Hold, %s: %v, %v, %d", what, a, b, e)
			}
		}
	}
}

// 30.1, 30.4, 30.5: what is not right.
func TestWrong(t *testing.T) {
	for what, h := range wrongHists() {
		if saysRight(h) {
			t.Fatalf("%s: nothing is wrong", what)
		}
		refused(t, what, h)
	}
}

// rightOnes is right histograms at the edges, by what they are.
func rightOnes() map[string]api.Hist {
	m := map[string]api.Hist{"the first one": seen(), "one without rows": none()}
	add := func(what string, turn func(*api.Hist)) {
		h := seen(row(7, 1, 1))
		turn(&h)
		m[what] = h
	}
	add("a great sum", func(h *api.Hist) { h.Rows[1].Count = math.MaxInt64 - 9 })
	add("a great sum at last", func(h *api.Hist) { h.Rows[2].Count = math.MaxInt64 - 3 })
	add("values at the ends", func(h *api.Hist) {
		h.Rows = []api.Row{row(1, math.MinInt64, 0), row(2, -1, 0), row(1, math.MaxInt64, math.MinInt64)}
	})
	add("a thread 9999, a location", func(h *api.Hist) {
		h.Refs, h.Cond[0].Ref, h.Cond[1].Ref = []api.Ref{reg(9999, "x"), loc("x")}, reg(9999, "x"), loc("x")
	})
	add("names that are no registers", func(h *api.Hist) {
		h.Refs, h.Cond = []api.Ref{reg(2, "B"), reg(2, "a")}, api.Cond{{Op: api.CTrue}}
	})
	add("threads by their numbers", func(h *api.Hist) {
		h.Refs, h.Cond = []api.Ref{reg(9, "x"), reg(10, "x")}, api.Cond{is(reg(10, "x"), 1)}
	})
	add("a long name", func(h *api.Hist) { h.Name = strings.Repeat("n", 64) })
	add("a row of no values", func(h *api.Hist) { h.Refs, h.Rows, h.Cond = nil, []api.Row{row(5)}, api.Cond{{Op: api.CTrue}} })
	add("lists of length 0", func(h *api.Hist) { h.Refs, h.Rows = []api.Ref{}, []api.Row{} })
	add("a condition about anything, without rows", func(h *api.Hist) { h.Refs, h.Rows, h.Cond = nil, nil, api.Cond{is(reg(9999, "is"), 1)} })
	add("48 references", func(h *api.Hist) {
		h.Refs, h.Rows, h.Cond = nil, []api.Row{{Count: 1, Final: api.Final{N: 48, V: [48]int64{47: 7}}}}, api.Cond{is(loc("l47"), 7)}
		for i := range 48 {
			h.Refs = append(h.Refs, loc(fmt.Sprintf("l%02d", i)))
		}
	})
	add("a condition of many nodes", func(h *api.Hist) {
		for len(h.Cond) < 1023 {
			h.Cond = append(h.Cond, is(reg(1, "EAX"), 1), api.Node{Op: api.COr, A: len(h.Cond) - 1, B: len(h.Cond)})
		}
	})
	for quant := api.Exists; quant <= api.Forall; quant++ {
		add(fmt.Sprint("the quantifier ", quant), func(h *api.Hist) { h.Quant = quant })
	}
	return m
}

// hold holds all that 30.1 says of a right histogram, and 30.7.
func hold(t *testing.T, what string, h api.Hist) {
	t.Helper()
	if e := hist.Check(h); e != api.OK || !saysRight(h) {
		t.Fatalf("Check, %s: %d: %s", what, e, short(h))
	}
	n, k := saysCounts(h)
	if a, b, e := hist.Counts(h); a != n || b != k || e != api.OK {
		t.Fatalf("Counts, %s: %d, %d, %d; want %d, %d", what, a, b, e, n, k)
	}
	s := textOf(t, h)
	if s != saysLog(h) {
		t.Fatalf("Text, %s: %q; want %q", what, s, saysLog(h))
	}
	if g, err := hist.Parse(s); err != nil || !same(g, h) {
		t.Fatalf("Parse, %s: %v, %v; want %v", what, g, err, h)
	}
}

// 30.1
func TestRight(t *testing.T) {
	for what, h := range rightOnes() {
		hold(t, what, h)
	}
	roll := dice(301)
	sizes, often := map[int]int{}, map[string]int{}
	for range 4000 {
		h := someHist(roll)
		hold(t, "some", h)
		sizes[len(h.Rows)]++
		often[strings.Fields(textOf(t, h)[strings.LastIndex(textOf(t, h), "Observation"):])[2]]++
	}
	if sizes[0] < 300 || sizes[1] < 300 || sizes[4] < 20 || often["Never"] < 300 || often["Always"] < 300 || often["Sometimes"] < 100 {
		t.Errorf("%v, %v", sizes, often)
	}
}

// twist changes one thing of a histogram, or two; most often it is not right then.
func twist(roll func(int) int, h api.Hist) api.Hist {
	h = wide(h)
	for range 1 + roll(2) {
		switch roll(9) {
		case 0:
			h.Name = pick(roll, []string{"", "a-", "x y", "b", strings.Repeat("m", 65)})
		case 1:
			h.Quant = roll(6) - 1
		case 2:
			h.Refs = someRefs(roll, 3)
		case 3:
			if len(h.Refs) > 0 {
				h.Refs[roll(len(h.Refs))] = api.Ref{Thread: pick(roll, []int{-2, -1, 0, 9999, 10000}), Name: pick(roll, []string{"x", "z", "", "1"})}
			}
		case 4:
			h.Cond = someCond(roll, append(slices.Clone(h.Refs), loc("x")), 1+roll(2))
		case 5:
			h.Cond[roll(len(h.Cond))].Op = roll(7)
		default:
			twistRow(roll, &h)
		}
	}
	return h
}

func twistRow(roll func(int) int, h *api.Hist) {
	if len(h.Rows) == 0 {
		h.Rows = append(h.Rows, row(1, 1))
		return
	}
	r := &h.Rows[roll(len(h.Rows))]
	switch roll(5) {
	case 0:
		r.Count = pick(roll, []int64{0, -1, 1, 1 << 40, math.MaxInt64, math.MinInt64})
	case 1:
		r.Final.N += roll(3) - 1
	case 2:
		r.Final.V[roll(4)] = pick(roll, someValues())
	case 3:
		*r = h.Rows[0]
	case 4:
		h.Rows = h.Rows[1:]
	}
}

// 30.1: what is not quite right.
func TestTwisted(t *testing.T) {
	roll := dice(302)
	right, wrong := 0, 0
	for range 20000 {
		h := twist(roll, someHist(roll))
		if saysRight(h) {
			hold(t, "twisted", h)
			right++
			continue
		}
		if e := hist.Check(h); e != api.ErrHist {
			t.Fatalf("Check(%s): %d", short(h), e)
		}
		wrong++
	}
	if right < 2000 || wrong < 5000 {
		t.Errorf("%d are right, %d are not", right, wrong)
	}
}

// 30.1: each quantifier, and each of how often the condition held.
func TestValidated(t *testing.T) {
	both, one, no := []api.Row{row(3, 0, 0), row(4, 0, 1)}, []api.Row{row(3, 0, 0)}, []api.Row{row(4, 0, 1)}
	for _, c := range []struct {
		quant  int
		rows   []api.Row
		want   string
		answer string
	}{
		{api.Exists, both, "exists ? is validated|Observation SB Sometimes 3 4|", "Ok"},
		{api.Exists, one, "exists ? is validated|Observation SB Always 3 0|", "Ok"},
		{api.Exists, no, "exists ? is NOT validated|Observation SB Never 0 4|", "No"},
		{api.Exists, nil, "exists ? is NOT validated|Observation SB Never 0 0|", "No"},
		{api.NotExists, both, "~exists ? is NOT validated|Observation SB Sometimes 3 4|", "No"},
		{api.NotExists, one, "~exists ? is NOT validated|Observation SB Always 3 0|", "No"},
		{api.NotExists, no, "~exists ? is validated|Observation SB Never 0 4|", "Ok"},
		{api.NotExists, nil, "~exists ? is validated|Observation SB Never 0 0|", "Ok"},
		{api.Forall, both, "forall ? is NOT validated|Observation SB Sometimes 3 4|", "No"},
		{api.Forall, one, "forall ? is validated|Observation SB Always 3 0|", "Ok"},
		{api.Forall, no, "forall ? is NOT validated|Observation SB Never 0 4|", "No"},
		{api.Forall, nil, "forall ? is validated|Observation SB Never 0 0|", "Ok"},
	} {
		h := seen()
		h.Quant, h.Rows = c.quant, c.rows
		if len(c.rows) == 0 {
			h.Refs = nil
		}
		s := textOf(t, h)
		demand := []string{"", "Allowed", "Forbidden", "Required"}[c.quant]
		if !strings.HasSuffix(s, "\nCondition "+lines(c.want)) || !strings.Contains(s, "\n"+c.answer+"\n\nWitnesses\n") || !strings.HasPrefix(s, "Test SB "+demand+"\n") {
			t.Errorf("%s; want %s, %s", s, c.answer, lines(c.want))
		}
	}
}

// 30.1: the blanks behind counts, and rows of no values.
func TestColumns(t *testing.T) {
	for n, want := range map[int64]string{1: "1     ", 12: "12    ", 123: "123   ", 1234: "1234  ", 12345: "12345 ", 99999: "99999 ", 100000: "100000", 999999: "999999", 1000000: "1000000", math.MaxInt64: "9223372036854775807"} {
		h := api.Hist{Name: "t", Quant: api.Forall, Rows: []api.Row{row(n)}, Cond: api.Cond{{Op: api.CTrue}}}
		if s := textOf(t, h); !strings.HasPrefix(s, "Test t Required\nHistogram (1 states)\n"+want+"*>\nOk\n\n") {
			t.Errorf("%d: %q", n, s)
		}
		h.Cond = not(h.Cond, true)
		if s := textOf(t, h); !strings.HasPrefix(s, "Test t Required\nHistogram (1 states)\n"+want+":>\nNo\n\n") {
			t.Errorf("%d: %q", n, s)
		}
		h.Refs, h.Rows = []api.Ref{reg(12, "a-b"), loc("x")}, []api.Row{row(n, -5, 1<<62)}
		if s := textOf(t, h); !strings.Contains(s, "\n"+want+":>12:a-b=-5; x=4611686018427387904;\nNo\n") {
			t.Errorf("%d: %q", n, s)
		}
	}
}

// long is a right histogram whose log has just so many bytes: many rows, and a condition that is as long as need be, and holds of none of them.
func long(size int) api.Hist {
	x := loc("x")
	h := api.Hist{Name: "long", Quant: api.Exists, Refs: []api.Ref{x}, Cond: api.Cond{is(x, 9)}}
	for i := range (size - 400) / len("1     :>x=100000;\n") {
		h.Rows = append(h.Rows, row(1, int64(100000+i)))
	}
	left := size - len(saysLog(h))
	for ; left >= len(` \/ x=9`); left -= len(` \/ x=9`) {
		h.Cond = append(h.Cond, is(x, 9), api.Node{Op: api.COr, A: len(h.Cond) - 1, B: len(h.Cond)})
	}
	for ; left > 0; left-- {
		h.Cond[0].Value = 10*h.Cond[0].Value + 9
	}
	return h
}

// 30.1: how long a log may be.
func TestLong(t *testing.T) {
	for _, size := range []int{2000, api.MaxText - 1, api.MaxText} {
		h := long(size)
		if s, e := hist.Text(h); e != api.OK || len(s) != size || s != saysLog(h) {
			t.Errorf("Text of %d bytes: %d, %d", size, len(s), e)
		}
	}
	for _, size := range []int{api.MaxText + 1, api.MaxText + 2, 2 * api.MaxText} {
		h := long(size)
		if s, e := hist.Text(h); e != api.ErrLong || s != "" || len(saysLog(h)) != size {
			t.Errorf("Text of %d bytes: %d, %d", size, len(s), e)
		}
		if n, k, e := hist.Counts(h); n != 0 || k != int64(len(h.Rows)) || e != api.OK {
			t.Errorf("Counts, with a log of %d bytes: %d, %d, %d", size, n, k, e)
		}
	}
	h := long(2 * api.MaxText)
	h.Rows[0].Count = 0
	if _, e := hist.Text(h); e != api.ErrHist {
		t.Errorf("Text of what is long, and not right: %d", e)
	}
	h = api.Hist{Name: "wide", Quant: api.Exists, Cond: api.Cond{{Op: api.CTrue}}} // its log has 64 million bytes
	for i := range 48 {
		h.Refs = append(h.Refs, loc(strings.Repeat("n", 62)+fmt.Sprint(10+i)))
	}
	for i := range 20000 {
		h.Rows = append(h.Rows, api.Row{Count: 1, Final: api.Final{N: 48, V: [48]int64{int64(i)}}})
	}
	if s, e := hist.Text(h); e != api.ErrLong || s != "" {
		t.Errorf("Text of long rows: %d, %d", len(s), e)
	}
}

// 30.3: what is wrong with a test comes ahead of what is wrong with runs.
func TestOfErrors(t *testing.T) {
	for what, x := range wrongTests(t) {
		_, want := prog.Check(x)
		if want == api.OK {
			t.Fatalf("%s: nothing is wrong", what)
		}
		for _, runs := range [][]api.Final{nil, four(), {of(0, 0, 1)}, {{N: -1}}} {
			if h, e := hist.Of(x, runs); e != want || !isZero(h) {
				t.Errorf("Of, %s: %v, %d; want %d", what, h, e, want)
			}
		}
	}
	for _, question := range []string{"exists true", "forall " + bothZero, "locations [x; y;] ~exists true"} {
		for what, runs := range wrongRuns() {
			if h, e := hist.Of(sb(t, question), runs); e != api.ErrSet || !isZero(h) {
				t.Errorf("Of, %s: %v, %d", what, h, e)
			}
		}
	}
}

// 30.3: what is watched is looked at too; of no runs nothing is; and where nothing is, all runs are one row.
func TestOfEdges(t *testing.T) {
	runs := append(four(), four()[1:]...)
	slices.Reverse(runs)
	x := sb(t, "locations [y; 1:EAX;] forall (x=1)")
	h := histOf(t, x, runs)
	if !slices.Equal(h.Refs, []api.Ref{reg(1, "EAX"), loc("x"), loc("y")}) || !slices.Equal(h.Rows, []api.Row{row(3, 0, 1, 1), row(4, 1, 1, 1)}) || h.Quant != api.Forall {
		t.Errorf("Of: %v", h)
	}
	if h = histOf(t, x, nil); !same(h, api.Hist{Name: "SB", Quant: api.Forall, Cond: x.Cond}) {
		t.Errorf("Of no runs: %v", h)
	}
	if h = histOf(t, sb(t, "exists true"), runs); len(h.Refs) != 0 || !slices.Equal(h.Rows, []api.Row{row(7)}) {
		t.Errorf("Of, where nothing is looked at: %v", h)
	}
	bare := parsed(t, "X86 bare { } P0 ; ~exists true")
	if h = histOf(t, bare, []api.Final{of(), of()}); !same(h, api.Hist{Name: "bare", Quant: api.NotExists, Rows: []api.Row{row(2)}, Cond: bare.Cond}) {
		t.Errorf("Of, where nothing is: %v", h)
	}
	full := api.Test{Name: "full", Threads: make([][]api.Instr, 4), Quant: api.Forall, Cond: api.Cond{{Op: api.CTrue}}}
	for k := range 4 {
		for _, s := range someRegs()[2*k : 2*k+8] {
			full.Inits = append(full.Inits, api.Init{Ref: reg(k, s)})
		}
	}
	for _, s := range someNames()[:16] {
		full.Inits = append(full.Inits, api.Init{Ref: loc(s)})
	}
	for _, i := range full.Inits {
		full.Watch = append(full.Watch, i.Ref)
	}
	f := api.Final{N: 48}
	for i := range f.V {
		f.V[i] = int64(i + 1)
	}
	if h = histOf(t, full, []api.Final{f, f, f}); len(h.Refs) != 48 || !slices.Equal(h.Rows, []api.Row{{Count: 3, Final: f}}) {
		t.Errorf("Of 48 values: %v", h)
	}
}

// 30.3
func TestOf(t *testing.T) {
	roll := dice(303)
	fewer := 0
	for range 3000 {
		x := someTest(roll)
		p := progOf(t, x)
		runs := someRuns(roll, len(prog.Names(p)), pick(roll, []int{0, 1, 5, 40}))
		h := histOf(t, x, runs)
		if want := saysOf(x, p, runs); !same(h, want) {
			t.Fatalf("Of(%s): %v; want %v", short(x, runs), h, want)
		}
		hold(t, "of runs", h)
		if len(h.Rows) < len(setOf(runs)) {
			fewer++
		}
	}
	if fewer < 100 {
		t.Errorf("%d times some runs became alike", fewer)
	}
}

// 30.3: so many runs that counts have more digits than a column has room for blanks.
func TestMany(t *testing.T) {
	x := sb(t, "exists "+bothZero)
	runs := make([]api.Final, 200000)
	for i := range runs {
		runs[i] = four()[min(i%7, 3)]
	}
	h := histOf(t, x, runs)
	if !slices.Equal(h.Rows, []api.Row{row(28572, 0, 0), row(28572, 0, 1), row(28572, 1, 0), row(114284, 1, 1)}) {
		t.Errorf("Of many: %v", h.Rows)
	}
	hold(t, "of many", h)
}
