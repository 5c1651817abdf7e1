package desk_test

import (
	"errors"
	"fmt"
	"strings"
	"testing"

	"weir/api"
	"weir/desk"
	"weir/prog"
)

// checkReport holds Run of a right file against the report of the full machine's final states.
func checkReport(t *testing.T, b string) string {
	t.Helper()
	s, err := desk.Run([]byte(b))
	if err != nil {
		t.Fatalf("Run(%s): %v", cutShort(b), err)
	}
	x := testOf(t, b)
	p, _ := prog.Of(x)
	if want := reported(t, x, fullFinals(t, p, api.MTSO)); s != want {
		t.Fatalf("Run(%s): %s; want %s", cutShort(b), s, want)
	}
	return s
}

// checkWrong holds that a file is refused by an error, at its place.
func checkWrong(t *testing.T, c wrongFile) {
	t.Helper()
	s, err := desk.Run([]byte(c.file))
	var at *api.PosError
	if s != "" || !errors.As(err, &at) || at.Line != c.line || at.Col != c.col || at.Err != error(c.errno) || desk.Class(err) != c.class {
		t.Errorf("Run(%s): %q, %v, of the class %d; want %d at %d:%d, of the class %d", cutShort(c.file), s, err, desk.Class(err), c.errno, c.line, c.col, c.class)
	}
}

// 28.1: the chapter's example 1, and that of the whole.
func TestRunExamples(t *testing.T) {
	condition := `0:EAX=0 /\ 1:EAX=0`
	four := "States 4\n0:EAX=0; 1:EAX=0;\n0:EAX=0; 1:EAX=1;\n0:EAX=1; 1:EAX=0;\n0:EAX=1; 1:EAX=1;\n"
	three := strings.Replace(four, "4\n0:EAX=0; 1:EAX=0;", "3", 1)
	fenced := strings.Replace(strings.ReplaceAll(sb, " MOV EAX,[y] |", " MFENCE | MFENCE ;\n MOV EAX,[y] |"), "SB", "SB+mfences", 1)
	for _, c := range [][2]string{
		{sb, "Test SB Allowed\n" + four + "Ok\nWitnesses\nPositive: 1 Negative: 3\nCondition exists " + condition + "\nObservation SB Sometimes 1 3\n"},
		{strings.Replace(sb, "exists", "~exists", 1), "Test SB Forbidden\n" + four + "No\nWitnesses\nPositive: 1 Negative: 3\nCondition ~exists " + condition + "\nObservation SB Sometimes 1 3\n"},
		{strings.Replace(sb, "exists", "forall", 1), "Test SB Required\n" + four + "No\nWitnesses\nPositive: 1 Negative: 3\nCondition forall " + condition + "\nObservation SB Sometimes 1 3\n"},
		{fenced, "Test SB+mfences Allowed\n" + three + "No\nWitnesses\nPositive: 0 Negative: 3\nCondition exists " + condition + "\nObservation SB+mfences Never 0 3\n"},
		{"X86 t { } P0 ; exists true", "Test t Allowed\nStates 1\n\nOk\nWitnesses\nPositive: 1 Negative: 0\nCondition exists true\nObservation t Always 1 0\n"},
	} {
		if s, err := desk.Run([]byte(c[0])); s != c[1] || err != nil {
			t.Errorf("Run(%s): %s, %v; want %s", c[0], s, err, c[1])
		}
	}
}

// 28.1: what people know, files at the limits, and unruly ones.
func TestRun(t *testing.T) {
	for _, c := range knownFiles() {
		s := checkReport(t, c.file)
		if !strings.Contains(s, "\n"+c.tso+"\n") {
			t.Errorf("Run(%s): %s; x86-TSO says %s", c.file, s, c.tso)
		}
	}
	for _, b := range edgeFiles() {
		checkReport(t, b)
	}
	roll := dice(281)
	for range 300 {
		checkReport(t, someFile(roll, 3))
	}
}

// 28.1: each way to be refused, where, and by what.
func TestRunWrong(t *testing.T) {
	for _, c := range wrongFiles() {
		checkWrong(t, c)
	}
}

// 28.1: a file of MaxText bytes, and one of a byte more, which is refused ahead of all that is in it.
func TestRunLong(t *testing.T) {
	want := checkReport(t, sb)
	if s, err := desk.Run([]byte(filled(sb, api.MaxText))); s != want || err != nil {
		t.Errorf("Run of MaxText bytes: %q, %v", s, err)
	}
	for _, b := range []string{filled(sb, api.MaxText+1), strings.Repeat("%", api.MaxText+1), filled("", 3*api.MaxText)} {
		s, err := desk.Run([]byte(b))
		if s != "" || err != error(api.ErrLong) || desk.Class(err) != api.Limit {
			t.Errorf("Run of %d bytes: %q, %v", len(b), s, err)
		}
	}
	if s, err := desk.Run(nil); s != "" || desk.Class(err) != api.Syntax {
		t.Errorf("Run of no bytes: %q, %v", s, err)
	}
}

// 28.1: reports of long threads, of which most instructions are no events.
func TestRunMoves(t *testing.T) {
	b := file("long", "x=1", []string{strings.Repeat("MOV R8,R9;", 1000) + "MOV R10,[x]", strings.Repeat("MOV EAX,$2;", 500) + "MOV [x],EAX"}, "exists 0:R10=2")
	if s, err := desk.Run([]byte(b)); err != nil || !strings.HasSuffix(s, "Observation long Sometimes 1 1\n") {
		t.Errorf("Run: %s, %v", s, err)
	}
}

// holder is an error of somebody's own around another one.
type holder struct{ within error }

func (h holder) Error() string { return "held" }

func (h holder) Unwrap() error { return h.within }

// 28.1: Class of each number, bare or held in another error, and of errors without one.
func TestClass(t *testing.T) {
	classes := map[int]int{0: 0}
	for e := api.Errno(-20); e < 400; e++ {
		want := 0
		switch {
		case 40 <= e && e <= 79:
			want = api.Syntax
		case 90 <= e && e <= 94:
			want = api.Ill
		case 95 <= e && e <= 98 || e == api.ErrLong || e == api.ErrDepth:
			want = api.Limit
		}
		at := &api.PosError{Line: 1, Col: 1, Err: e}
		for _, err := range []error{e, at, holder{e}, holder{at}, &api.PosError{Err: holder{at}}, fmt.Errorf("a %w b", at), errors.Join(errors.New("x"), e)} {
			if got := desk.Class(err); got != want {
				t.Errorf("Class of %d as %T: %d; want %d", e, err, got, want)
			}
		}
		classes[want]++
	}
	for _, err := range []error{nil, errors.New("error 70"), holder{nil}, holder{errors.New("x")}, &api.PosError{Line: 1, Col: 1}, errors.Join(errors.New("x"), holder{nil})} {
		if got := desk.Class(err); got != 0 {
			t.Errorf("Class of %v: %d", err, got)
		}
	}
	if classes[api.Syntax] != 40 || classes[api.Ill] != 5 || classes[api.Limit] != 6 {
		t.Errorf("%v", classes)
	}
}

// suiteOf is what Suite must answer of files that each begin with X86 and a blank.
func suiteOf(t *testing.T, l []string) string {
	t.Helper()
	out := ""
	for _, b := range l {
		if x, s := refusedFile(b); s != "" {
			out += s
		} else {
			out += suiteLine(t, x.Name, x)
		}
	}
	return out
}

// 28.2: the chapter's example 2, and files that people know, by the three models.
func TestSuite(t *testing.T) {
	twice := "X86 t { x=1; x=2 } P0 ; exists true"
	for _, c := range [][2]string{
		{sb + twice, "SB SC=No TSO=Ok PSO=Ok\n! 90 1 14\n"},
		{twice + "\n" + sb, "! 90 1 14\nSB SC=No TSO=Ok PSO=Ok\n"},
		{"", ""}, {" \n\t\r\n", ""}, {" \n" + sb + "\n\n", "SB SC=No TSO=Ok PSO=Ok\n"},
		{"x", "! 70 1 1\n"}, {"(* a head *)\n" + sb, "! 70 2 1\nSB SC=No TSO=Ok PSO=Ok\n"},
		{"X86 t\nX86 t\n", "! 70 2 1\n! 70 2 1\n"}, {"X86\n", "! 70 2 1\n"}, {"X86 ", "! 70 1 5\n"},
		{filled(sb, api.MaxText+1), "! 1\n"}, {filled(sb, api.MaxText+1) + "\n" + filled(sb, api.MaxText-1) + "\n" + twice, "! 1\nSB SC=No TSO=Ok PSO=Ok\n! 90 1 14\n"},
	} {
		if s := desk.Suite([]byte(c[0])); s != c[1] {
			t.Errorf("Suite(%s): %s; want %s", cutShort(c[0]), s, c[1])
		}
	}
	if s := desk.Suite(nil); s != "" {
		t.Errorf("Suite of nothing: %q", s)
	}
	bundle, want := "", ""
	for _, c := range knownFiles() {
		bundle += c.file
		want += testOf(t, c.file).Name + " SC=" + c.sc + " TSO=" + c.tso + " PSO=" + c.ps + "\n"
	}
	if s := desk.Suite([]byte(bundle)); s != want {
		t.Errorf("Suite: %s; want %s", s, want)
	}
}

// 28.2: files of all kinds, one behind the other.
func TestSuites(t *testing.T) {
	var all []string
	for _, c := range wrongFiles() {
		if strings.HasPrefix(c.file, "X86 ") {
			all = append(all, c.file+"\n")
		}
	}
	for _, b := range edgeFiles() {
		if strings.HasPrefix(b, "X86 ") {
			all = append(all, b+"\n")
		}
	}
	if s, want := desk.Suite([]byte(strings.Join(all, ""))), suiteOf(t, all); s != want {
		t.Errorf("Suite: %s; want %s", s, want)
	}
	roll := dice(282)
	for range 40 {
		var l []string
		for range roll(6) {
			if roll(3) == 0 {
				l = append(l, pick(roll, all[:20]))
			} else {
				l = append(l, someFile(roll, 3))
			}
		}
		if s, want := desk.Suite([]byte(strings.Join(l, ""))), suiteOf(t, l); s != want {
			t.Errorf("Suite(%q): %s; want %s", l, s, want)
		}
	}
}

// 28.4, R4: what is handed in is not changed, the spare room behind it neither, and not kept.
func TestBytesStay(t *testing.T) {
	for _, b := range []string{sb, "X86 t { x=1; x=2 } P0 ; exists true", "", sb + sb} {
		room := append([]byte(b), strings.Repeat("r", 100)...)
		l := room[:len(b)]
		s, err := desk.Run(l)
		suite := desk.Suite(l)
		if string(room) != b+strings.Repeat("r", 100) {
			t.Errorf("what was handed in became %q", room)
		}
		for i := range room {
			room[i] = '%'
		}
		s2, err2 := desk.Run([]byte(b))
		if s2 != s || fmt.Sprint(err2) != fmt.Sprint(err) || desk.Suite([]byte(b)) != suite {
			t.Errorf("%q: another answer: %q, %v", b, s2, err2)
		}
	}
}

// R4: errors are new memory.
func TestErrorsApart(t *testing.T) {
	bad := []byte("X86 t { x=1; x=2 } P0 ; exists true")
	_, err := desk.Run(bad)
	var at *api.PosError
	if !errors.As(err, &at) {
		t.Fatal(err)
	}
	*at = api.PosError{Line: 7, Col: 7, Err: api.ErrHist}
	_, err = desk.Run(bad)
	if err == nil || err.Error() != "1:14: error 90" {
		t.Errorf("%v", err)
	}
}
