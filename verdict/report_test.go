package verdict_test

import (
	"math"
	"slices"
	"strings"
	"testing"

	"weir/allow"
	"weir/api"
	"weir/prog"
	"weir/reduce"
	"weir/verdict"
)

// reportOf is what Report answers of a right test and a set that fits.
func reportOf(t *testing.T, x api.Test, l []api.Final) string {
	t.Helper()
	s, e := verdict.Report(x, l)
	if e != api.OK {
		t.Fatalf("Report(%v, %v): %d", x, l, e)
	}
	return s
}

// lines is a text in which / stands for each line feed, and C for SB's condition.
func lines(s string) string {
	return strings.NewReplacer("/", "\n", "C/", `0:EAX=0 /\ 1:EAX=0`+"\n", `\|`, `\/`).Replace(s)
}

// 23.5: the chapter's examples, and each word of each line.
func TestReports(t *testing.T) {
	all := "States 4/0:EAX=0; 1:EAX=0;/0:EAX=0; 1:EAX=1;/0:EAX=1; 1:EAX=0;/0:EAX=1; 1:EAX=1;/"
	three := "States 3/0:EAX=0; 1:EAX=1;/0:EAX=1; 1:EAX=0;/0:EAX=1; 1:EAX=1;/"
	for _, c := range []struct {
		quant string
		l     []api.Final
		want  string
	}{
		{"exists", four(), "Test SB Allowed/" + all + "Ok/Witnesses/Positive: 1 Negative: 3/Condition exists C/Observation SB Sometimes 1 3/"},
		{"~exists", four(), "Test SB Forbidden/" + all + "No/Witnesses/Positive: 1 Negative: 3/Condition ~exists C/Observation SB Sometimes 1 3/"},
		{"forall", four(), "Test SB Required/" + all + "No/Witnesses/Positive: 1 Negative: 3/Condition forall C/Observation SB Sometimes 1 3/"},
		{"exists", four()[1:], "Test SB Allowed/" + three + "No/Witnesses/Positive: 0 Negative: 3/Condition exists C/Observation SB Never 0 3/"},
		{"~exists", four()[1:], "Test SB Forbidden/" + three + "Ok/Witnesses/Positive: 0 Negative: 3/Condition ~exists C/Observation SB Never 0 3/"},
		{"forall", four()[1:], "Test SB Required/" + three + "No/Witnesses/Positive: 0 Negative: 3/Condition forall C/Observation SB Never 0 3/"},
		{"exists", four()[:1], "Test SB Allowed/States 1/0:EAX=0; 1:EAX=0;/Ok/Witnesses/Positive: 1 Negative: 0/Condition exists C/Observation SB Always 1 0/"},
		{"~exists", four()[:1], "Test SB Forbidden/States 1/0:EAX=0; 1:EAX=0;/No/Witnesses/Positive: 1 Negative: 0/Condition ~exists C/Observation SB Always 1 0/"},
		{"forall", four()[:1], "Test SB Required/States 1/0:EAX=0; 1:EAX=0;/Ok/Witnesses/Positive: 1 Negative: 0/Condition forall C/Observation SB Always 1 0/"},
		{"exists", nil, "Test SB Allowed/States 0/No/Witnesses/Positive: 0 Negative: 0/Condition exists C/Observation SB Never 0 0/"},
		{"~exists", nil, "Test SB Forbidden/States 0/Ok/Witnesses/Positive: 0 Negative: 0/Condition ~exists C/Observation SB Never 0 0/"},
		{"forall", nil, "Test SB Required/States 0/Ok/Witnesses/Positive: 0 Negative: 0/Condition forall C/Observation SB Never 0 0/"},
	} {
		if s := reportOf(t, sb(t, c.quant+" "+bothZero), c.l); s != lines(c.want) {
			t.Errorf("Report: %s; want %s", s, lines(c.want))
		}
	}
}

// 23.5: the lines count what is looked at, the numbers count all; and where nothing is looked at, a line is empty.
func TestReportEdges(t *testing.T) {
	bare := parsed(t, "X86 a.b+c { } P0 ; forall true")
	for _, c := range []struct {
		x    api.Test
		l    []api.Final
		want string
	}{
		{sb(t, "exists x=1"), four(), "Test SB Allowed/States 1/x=1;/Ok/Witnesses/Positive: 4 Negative: 0/Condition exists x=1/Observation SB Always 4 0/"},
		{sb(t, "exists 1:EAX=0"), four(), "Test SB Allowed/States 2/1:EAX=0;/1:EAX=1;/Ok/Witnesses/Positive: 2 Negative: 2/Condition exists 1:EAX=0/Observation SB Sometimes 2 2/"},
		{sb(t, "exists true"), four(), "Test SB Allowed/States 1//Ok/Witnesses/Positive: 4 Negative: 0/Condition exists true/Observation SB Always 4 0/"},
		{sb(t, "forall ~true"), four(), "Test SB Required/States 1//No/Witnesses/Positive: 0 Negative: 4/Condition forall ~true/Observation SB Never 0 4/"},
		{sb(t, "locations [y; 1:EAX;] ~exists true"), four()[2:], "Test SB Forbidden/States 2/1:EAX=0; y=1;/1:EAX=1; y=1;/No/Witnesses/Positive: 2 Negative: 0/Condition ~exists true/Observation SB Always 2 0/"},
		{sb(t, `locations [x;] exists ~(x=0x10 \/ ((0:EAX=-1)))`), []api.Final{of(math.MinInt64, 0, 16, 0), of(math.MaxInt64, 0, -16, 0)},
			`Test SB Allowed/States 2/0:EAX=-9223372036854775808; x=16;/0:EAX=9223372036854775807; x=-16;/Ok/Witnesses/Positive: 1 Negative: 1/Condition exists ~(x=16 \| 0:EAX=-1)/Observation SB Sometimes 1 1/`},
		{bare, []api.Final{of()}, "Test a.b+c Required/States 1//Ok/Witnesses/Positive: 1 Negative: 0/Condition forall true/Observation a.b+c Always 1 0/"},
		{bare, nil, "Test a.b+c Required/States 0/Ok/Witnesses/Positive: 0 Negative: 0/Condition forall true/Observation a.b+c Never 0 0/"},
	} {
		if s := reportOf(t, c.x, c.l); s != lines(c.want) {
			t.Errorf("Report: %s; want %s", s, lines(c.want))
		}
	}
}

// 23.5: numbers of more digits than one.
func TestReportMany(t *testing.T) {
	x := parsed(t, "X86 many { } P0 ; MOV EAX,[x] ; locations [x;] exists 0:EAX=7")
	var l []api.Final
	for i := range int64(12345) {
		l = append(l, of(i%10, i/10))
	}
	l = setOf(l)
	s := reportOf(t, x, l)
	first := lines("Test many Allowed/States 12345/0:EAX=0; x=0;/0:EAX=0; x=1;/")
	last := lines("0:EAX=9; x=1233;/Ok/Witnesses/Positive: 1234 Negative: 11111/Condition exists 0:EAX=7/Observation many Sometimes 1234 11111/")
	if !strings.HasPrefix(s, first) || !strings.HasSuffix(s, last) {
		t.Errorf("Report: %.100s .. %s", s, s[len(s)-200:])
	}
}

// finalsOf is the final states of a test by one of the three models; both engines have the same.
func finalsOf(t *testing.T, kind int, x api.Test) []api.Final {
	t.Helper()
	p := progOf(t, x)
	l, _, e := reduce.Finals(kind, p, math.MaxInt)
	if e != api.OK {
		t.Fatalf("reduce.Finals(%d, %v): %d", kind, p, e)
	}
	known, e := allow.Known(kind, p)
	if f, n, err := verdict.Cross(l, known); e != api.OK || f != of() || n != 0 || err != api.OK {
		t.Fatalf("Cross of both engines, %d, %v: %v, %d, %d", kind, p, f, n, err)
	}
	return l
}

// The document's first examples of the whole, and others that people know: what Observation says, by SC, x86-TSO and PSO.
func TestWellKnown(t *testing.T) {
	for _, c := range []struct {
		file string
		want [3]string
	}{
		{`X86 SB { x=0; y=0; } P0 | P1 ; MOV [x],$1 | MOV [y],$1 ; MOV EAX,[y] | MOV EAX,[x] ; exists (0:EAX=0 /\ 1:EAX=0)`,
			[3]string{"States 3 No Never 0 3", "States 4 Ok Sometimes 1 3", "States 4 Ok Sometimes 1 3"}},
		{`X86 SB { x=0; y=0; } P0 | P1 ; MOV [x],$1 | MOV [y],$1 ; MFENCE | MFENCE ; MOV EAX,[y] | MOV EAX,[x] ; exists (0:EAX=0 /\ 1:EAX=0)`,
			[3]string{"States 3 No Never 0 3", "States 3 No Never 0 3", "States 3 No Never 0 3"}},
		{`X86 MP { } P0 | P1 ; MOV [x],$1 | MOV EAX,[y] ; MOV [y],$1 | MOV EBX,[x] ; ~exists (1:EAX=1 /\ 1:EBX=0)`,
			[3]string{"States 3 Ok Never 0 3", "States 3 Ok Never 0 3", "States 4 No Sometimes 1 3"}},
		{`X86 two { 0:EAX=1; 1:EAX=1; } P0 | P1 ; LOCK XADD [x],EAX | LOCK XADD [x],EAX ; locations [0:EAX;] forall x=2`,
			[3]string{"States 2 Ok Always 2 0", "States 2 Ok Always 2 0", "States 2 Ok Always 2 0"}},
		{`X86 one { } P0 ; MOV [x],$1 ; MOV EAX,[x] ; forall 0:EAX=1`,
			[3]string{"States 1 Ok Always 1 0", "States 1 Ok Always 1 0", "States 1 Ok Always 1 0"}},
	} {
		x := parsed(t, c.file)
		for i, kind := range []int{api.MSC, api.MTSO, api.MPSO} {
			l := strings.Split(reportOf(t, x, finalsOf(t, kind, x)), "\n")
			verdicts := slices.DeleteFunc(slices.Clone(l), func(s string) bool { return s != "Ok" && s != "No" })
			_, often, _ := strings.Cut(l[len(l)-2], "Observation "+x.Name+" ")
			if got := l[1] + " " + strings.Join(verdicts, "") + " " + often; got != c.want[i] {
				t.Errorf("%s by %d: %s; want %s", c.file, kind, got, c.want[i])
			}
		}
	}
}

// The chapter's third example.
func TestExamples(t *testing.T) {
	x := sb(t, "exists "+bothZero)
	if _, e := verdict.Holds(x, of(0, 0, 1)); e != api.ErrSet {
		t.Errorf("Holds of three values: %d", e)
	}
	if f, n, e := verdict.Cross(four(), four()[1:]); f != of(0, 0, 1, 1) || n != 1 || e != api.OK {
		t.Errorf("Cross: %v, %d, %d", f, n, e)
	}
	refs, _, _ := verdict.Seen(x, four())
	if !slices.Equal(refs, []api.Ref{reg(0, "EAX"), reg(1, "EAX")}) {
		t.Errorf("Seen: %v", refs)
	}
	if v, e := verdict.Value(progOf(t, x), of(3, 4, 5, 6), loc("x")); v != 5 || e != api.OK {
		t.Errorf("Value: %d, %d", v, e)
	}
	if v, e := verdict.Value(progOf(t, x), of(3, 4, 5, 6), prog.Names(progOf(t, x))[3]); v != 6 || e != api.OK {
		t.Errorf("Value: %d, %d", v, e)
	}
}
