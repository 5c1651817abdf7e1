package cycle_test

import (
	"errors"
	"slices"
	"strings"
	"testing"

	"weir/api"
	"weir/cycle"
	"weir/lexis"
)

// 26.1: all names, by their numbers.
func TestEdges(t *testing.T) {
	if l := cycle.Edges(); !slices.Equal(l, words(known)) {
		t.Errorf("Edges: %v", l)
	}
}

// 26.1: each name by itself, many of them, and with blanks and comments about.
func TestParse(t *testing.T) {
	for text, want := range map[string]string{
		"":                        "",
		" \t\r\n":                 "",
		"(* Rfe *)":               "",
		"PodWR Fre PodWR Fre":     "PodWR Fre PodWR Fre",
		"\nFre (* x (* *)*)\tFre": "Fre Fre", // no cycle, but edges
		"Rfe(**)Coi\r\nPosWW ":    "Rfe Coi PosWW",
		known:                     known,
	} {
		if l, err := cycle.Parse(text); err != nil || !slices.Equal(l, words(want)) {
			t.Errorf("Parse(%q): %v, %v", text, l, err)
		}
	}
	many := strings.Repeat(known+"\n", 9000) // no more than a text may have, far more than a cycle
	if l, err := cycle.Parse(many); err != nil || !slices.Equal(l, slices.Repeat(words(known), 9000)) {
		t.Errorf("Parse of many: %d, %v", len(l), err)
	}
	full := "Coe" + strings.Repeat(" ", api.MaxText-3)
	if l, err := cycle.Parse(full); err != nil || !slices.Equal(l, words("Coe")) {
		t.Errorf("Parse of the longest text: %v, %v", l, err)
	}
}

// 26.1: what is wrong, and where.
func TestParseWrong(t *testing.T) {
	at := func(text string, want api.Errno, line, col int) {
		t.Helper()
		l, err := cycle.Parse(text)
		var p *api.PosError
		if len(l) != 0 || !errors.As(err, &p) || p.Line != line || p.Col != col || p.Err != error(want) {
			t.Errorf("Parse(%q): %v, %v", text, l, err)
		}
	}
	for _, s := range words(`Pod Rf rfe RFE Rfex Rfe.1 Rfe+Fre PodWR+Fre PodWRs PodXR Pod-WR MFenced MFencedWRR mfencedRR P R W x _ 1 0x1 "Rfe" "" ( ) [ ; , : | = $ ~ & + * ? /\ \/ \ ^-1`) {
		at(s, api.ErrCycle, 1, 1)
		at("Rfe\n Fre "+s+" PodWR", api.ErrCycle, 2, 6)
		at(s+"\nPod", api.ErrCycle, 1, 1) // the first one of two
	}
	at("Fre\n Pod", api.ErrCycle, 2, 2)
	at("Rfe,Fre", api.ErrCycle, 1, 4)
	at("PodWR Fre)", api.ErrCycle, 1, 10)
	// What lexis refuses comes first, though it stands behind.
	at("Pod %", api.ErrToken, 1, 5)
	at("Rfe\n(* x", api.ErrComment, 2, 1)
	at("Pod \"Rfe", api.ErrToken, 1, 9)
	at("Pod 1x", api.ErrNumber, 1, 5)
	at("Pod 99999999999999999999", api.ErrBig, 1, 5)
	at("Pod Rfe-", api.ErrToken, 1, 8)
	at("Pod "+strings.Repeat("a", 65), api.ErrLong, 1, 5)
	long := strings.Repeat("Rfe ", api.MaxText/4) + " "
	if l, err := cycle.Parse(long); len(l) != 0 || err != error(api.ErrLong) {
		t.Errorf("Parse of too long a text: %v, %v", len(l), err)
	}
}

// 26.1: unruly texts, held against the tokens.
func TestParseUnruly(t *testing.T) {
	roll := dice(261)
	odd := words(`Pod Rfe. fre "Rfe" 1 + % ( (* *) x`)
	good, wrong := 0, 0
	for range 20000 {
		var text strings.Builder
		for range roll(6) {
			text.WriteString(pick(roll, words(known)) + pick(roll, []string{" ", " ", " ", "\n", "\t\r\n  ", "(* Coe *)", "(**)", "(**)\n"}))
			if roll(6) == 0 {
				text.WriteString(pick(roll, odd) + pick(roll, []string{" ", "\n", "", ","}))
			}
		}
		l, err := cycle.Parse(text.String())
		want, wantErr := parseOf(text.String())
		if !slices.Equal(l, want) || !sameError(err, wantErr) {
			t.Fatalf("Parse(%q): %v, %v; want %v, %v", text.String(), l, err, want, wantErr)
		}
		if err == nil {
			good++
		} else {
			wrong++
		}
	}
	if good < 2000 || wrong < 2000 {
		t.Errorf("%d texts are edges, %d are not", good, wrong)
	}
}

// parseOf is what Parse must answer.
func parseOf(text string) ([]string, error) {
	tokens, err := lexis.All(text)
	if err != nil {
		return nil, err
	}
	var l []string
	for _, x := range tokens {
		l = append(l, x.Text)
		if x.Kind != api.TName || numberOf(x.Text) < 0 {
			return nil, &api.PosError{Line: x.Line, Col: x.Col, Err: api.ErrCycle}
		}
	}
	return l, nil
}

// sameError tells whether two errors say the same.
func sameError(a, b error) bool {
	if a == nil || b == nil {
		return a == b
	}
	var p, q *api.PosError
	return errors.As(a, &p) == errors.As(b, &q) && a.Error() == b.Error()
}

// 26.2: the chapter's examples, and what stands around the bounds.
func TestCheck(t *testing.T) {
	for s, want := range map[string]int{ // -1: a cycle
		"PodWR Fre PodWR Fre":               -1,
		"Fre PodWR Fre PodWR":               -1,
		"PodWW Rfe PodRR Fre":               -1,
		"Coe PodWW Coe PodWW":               -1,
		"Coe Coe PodWW PodWW":               -1, // an edge that goes out beside another one
		"PodWR Fre":                         0,
		"PodWR Rfe":                         0,
		"Fre Pod":                           1,
		"PodWR Fre PodRR Fre":               2,
		"Rfe Fre":                           0, // none leads away
		"":                                  0,
		"Coe":                               0, // goes on as it must, but is one alone
		"PodWW":                             0,
		"PodWR":                             0,
		"Pod":                               0,
		"PodWW PodWW":                       0, // none goes out
		"Coe PodWW PodWW":                   0, // one goes out
		"Coe Coe PodWW":                     0, // one leads away
		"Coe Coe PosWW PosWW":               0, // none leads away
		"Coe Coe PosWW PodWW MFencedWW":     -1,
		"Coe Coi PodWW PodWW":               0, // Coi does not go out
		"PodRR MFencedRR Fri Rfi":           0,
		"PodRR MFencedRR Fre Rfi":           0,
		"PodRR MFencedRR Fre Rfe":           -1,
		"PodRR PosRR Fre Rfe":               0,
		"PodRW PodWR Fre Rfe PodWR Rfe pod": 6, // a name that is none counts more than what stands ahead
		"PodWW PodRR Coe x":                 3,
		"PodWW PodRR Coe Rfe":               0, // the first one does not fit the last one, which comes ahead of the second one
		"PodWW PodRR Coe Coe":               1,
		"PodWW PodWW Coe Fre Coe":           3,
	} {
		i, e := cycle.Check(words(s))
		if want == -1 && (i != 0 || e != api.OK) || want >= 0 && (i != want || e != api.ErrCycle) {
			t.Errorf("Check(%s): %d, %d", s, i, e)
		}
	}
	sixteen := slices.Repeat(words("PodWR Fre"), 8)
	for n := range 17 {
		want := api.OK
		if n%2 == 1 || n < 4 {
			want = api.ErrCycle
		}
		if i, e := cycle.Check(sixteen[:n]); i != 0 || e != want {
			t.Errorf("Check of %d: %d, %d", n, i, e)
		}
	}
	for n := 17; n < 40; n++ { // too long comes first, whatever they are
		for _, s := range []string{"Coe", "PodWR", "", "x"} {
			if i, e := cycle.Check(slices.Repeat([]string{s}, n)); i != 0 || e != api.ErrLong {
				t.Errorf("Check of %d times %q: %d, %d", n, s, i, e)
			}
		}
	}
	for _, s := range []string{"", "rfe", "Rfe ", " Rfe", "Rf", "Rfee", "RFE", "PodWX", "Pod", "PodWRR", "\xff", "0"} {
		if i, e := cycle.Check(slices.Concat(sixteen[:9], []string{s}, sixteen[:6])); i != 9 || e != api.ErrCycle {
			t.Errorf("Check with %q: %d, %d", s, i, e)
		}
	}
}

// 26.2, 26.3: all lists of up to four edges, and of five that go on as they must.
func TestCheckAll(t *testing.T) {
	good := 0
	for n := range 5 {
		lists(words(known), n, func(l []string) { good += checkOne(t, l) })
	}
	rounds(words(known), 5, func(l []string) { good += checkOne(t, l) })
	if good < 5000 {
		t.Errorf("%d cycles", good)
	}
}

// checkOne holds Check and Canon of a list against the chapter's words; 1, if it is a cycle.
func checkOne(t *testing.T, l []string) int {
	t.Helper()
	i, e := cycle.Check(l)
	if want, wantErr := checkOf(l); i != want || e != wantErr {
		t.Fatalf("Check(%v): %d, %d; want %d, %d", l, i, e, want, wantErr)
	}
	c, ce := cycle.Canon(l)
	if ce != e {
		t.Fatalf("Canon(%v): %d; Check: %d", l, ce, e)
	}
	if e != api.OK {
		if len(c) != 0 {
			t.Fatalf("Canon(%v): %v beside %d", l, c, e)
		}
		return 0
	}
	if want := canonOf(l); !slices.Equal(c, want) {
		t.Fatalf("Canon(%v): %v; want %v", l, c, want)
	}
	return 1
}

// 26.2, 26.3: unruly lists of any length, most often cycles or nearly.
func TestCheckUnruly(t *testing.T) {
	roll := dice(262)
	good := 0
	for range 20000 {
		l := someCycle(t, roll, 4+roll(13), 16)
		good += checkOne(t, l)
		bent := slices.Clone(l)
		switch roll(4) {
		case 0:
			bent[roll(len(l))] = pick(roll, words(known))
		case 1:
			k := roll(len(l))
			bent = slices.Delete(bent, k, k+1)
		case 2:
			bent = slices.Insert(bent, roll(len(l)), pick(roll, words(known)))
		case 3:
			bent[roll(len(l))], bent[roll(len(l))] = pick(roll, []string{"", "Pod", "x"}), pick(roll, words(known))
		}
		checkOne(t, bent)
	}
	if good != 20000 {
		t.Errorf("%d cycles", good)
	}
}

// 26.3: written out.
func TestCanon(t *testing.T) {
	for s, want := range map[string]string{
		"PodWR Fre PodWR Fre":               "PodWR Fre PodWR Fre",
		"Fre PodWR Fre PodWR":               "PodWR Fre PodWR Fre",
		"PodWW Rfe PodRR Fre":               "PodRR Fre PodWW Rfe",
		"Coe PodWW Coe PodWW":               "PodWW Coe PodWW Coe", // Coe has the lesser number, but that turn's last edge does not go out
		"MFencedWR Fre PodWR Fre":           "PodWR Fre MFencedWR Fre",
		"PodRR Fre Rfe PodRR Fre Rfe":       "Rfe PodRR Fre Rfe PodRR Fre",
		"PodWW PodWW Rfe Fre":               "Fre PodWW PodWW Rfe",
		"PodWW PosWW Coe Coi PodWW Coe Coi": "Coi PodWW Coe Coi PodWW PosWW Coe", // as far as two turns are the same, the next edge counts
		"PodWW Coe PodWW Coe Coe PosWW":     "Coe PosWW PodWW Coe PodWW Coe",
		"PodRR PosRR Fre Coe PodWR":         "Coe PodWR PodRR PosRR Fre",
	} {
		if l, e := cycle.Canon(words(s)); e != api.OK || !slices.Equal(l, words(want)) {
			t.Errorf("Canon(%s): %v, %d; want %s", s, l, e, want)
		}
	}
}

// 26.6: what is handed in is not changed and not kept, what is handed out is new memory.
func TestMemory(t *testing.T) {
	edges := cycle.Edges()
	edges[0] = "x"
	if l := cycle.Edges(); !slices.Equal(l, words(known)) {
		t.Errorf("Edges, behind a change: %v", l)
	}
	spare := append(words("PodWW Rfe PodRR Fre"), "a", "b")
	l := spare[:4]
	c1, _ := cycle.Canon(l)
	c2, _ := cycle.Canon(l)
	cycle.Check(l)
	x, y := testOf(t, l), testOf(t, l)
	if !slices.Equal(spare, words("PodWW Rfe PodRR Fre a b")) {
		t.Errorf("handed in, and changed: %v", spare)
	}
	// Lists that are made longer, or written over, change no others.
	_ = append(append(c1[:0], "x"), slices.Repeat([]string{"y"}, 20)...)
	c1 = c1[:cap(c1)]
	clear(c1)
	if !slices.Equal(c2, words("PodRR Fre PodWW Rfe")) || !slices.Equal(l, words("PodWW Rfe PodRR Fre")) {
		t.Errorf("Canon shares memory: %v, %v", c2, l)
	}
	c2[0] = "z"
	if c, _ := cycle.Canon(words("PodRR Fre PodWW Rfe")); !slices.Equal(c, words("PodRR Fre PodWW Rfe")) {
		t.Errorf("Canon, behind a change: %v", c)
	}
	want := testOf(t, l)
	for i := range x.Threads {
		clear(x.Threads[i][:cap(x.Threads[i])])
		if i+1 < len(x.Threads) && !slices.Equal(x.Threads[i+1], want.Threads[i+1]) {
			t.Errorf("threads share memory: %v", x)
		}
	}
	clear(x.Threads[:cap(x.Threads)])
	clear(x.Cond[:cap(x.Cond)])
	if !same(y, want) || !same(testOf(t, l), want) {
		t.Errorf("tests share memory: %v", y)
	}
}
