package hist_test

import (
	"fmt"
	"math"
	"slices"
	"strings"
	"testing"

	"weir/api"
	"weir/hist"
)

// noLog tells that a text is no log.
func noLog(t *testing.T, s string) {
	t.Helper()
	if h, err := hist.Parse(s); err != api.ErrHist || !isZero(h) {
		t.Errorf("Parse(%.300q): %v, %v", s, h, err)
	}
}

// tells is the answer of a log's fourth line, and whether that of its last but one is the same.
func tells(s string) bool {
	ok := strings.Contains(s, "\nOk\n\nWitnesses\n")
	if ok == strings.Contains(s, "\nNo\n\nWitnesses\n") || ok == strings.Contains(s, " is NOT validated\n") {
		panic("a log tells both")
	}
	return ok
}

// 30.2: the beginnings and the ends of a log, and all with another byte in it.
func TestNearLogs(t *testing.T) {
	s := textOf(t, seen(row(7, 1, 1)))
	for i := range s {
		noLog(t, s[:i])
		if i > 0 {
			noLog(t, s[i:])
		}
	}
	for _, more := range []string{"\n", " ", "\x00", "x", s} {
		noLog(t, s+more)
		noLog(t, more+s)
	}
	roll := dice(3020)
	for i := range s {
		for _, b := range []byte("\x00\t\n\r 0129:*>=;-~()xENOAstn\x80\xff") {
			checkParse(t, s[:i]+string([]byte{b})+s[i:])
			checkParse(t, s[:i]+string([]byte{b})+s[i+1:])
		}
		checkParse(t, s[:i]+s[i+1:])
		k := roll(len(s))
		checkParse(t, s[:min(i, k)]+s[max(i, k):])
	}
}

// checkParse holds Parse of any text against the chapter's words; it tells whether the text is a log.
func checkParse(t *testing.T, s string) bool {
	t.Helper()
	want, ok := saysParse(s)
	h, err := hist.Parse(s)
	if !ok && (err != api.ErrHist || !isZero(h)) {
		t.Fatalf("Parse(%q): %v, %v; want ErrHist", s, h, err)
	}
	if ok && (err != nil || !same(h, want)) {
		t.Fatalf("Parse(%q): %v, %v; want %v", s, h, err, want)
	}
	return ok
}

// The chapter's example 4, and more texts each of which has something that does not fit the rest, or is not written so.
func TestNoLogs(t *testing.T) {
	s := textOf(t, seen(row(7, 1, 1)))
	for _, c := range [][2]string{
		{"Positive: 0", "Positive: 1"}, {"Positive: 0", "Positive: 00"}, {"Positive: 0", "Positive: -0"}, {"Negative: 10", "Negative: 9"}, {"Negative: 10", "Negative: 0xa"},
		{"0, Neg", "0 Neg"}, {"Test SB", "Test BS"}, {"Test SB", "Test  SB"}, {"Test SB", "test SB"}, {"Test SB ", "Test S B "}, {"Test SB Allowed", "Test SB"},
		{"Allowed", "Forbidden"}, {"Allowed", "Required"}, {"Allowed", "allowed"}, {"Allowed", "Allowed "}, {"Allowed", "Allowed\r"}, {"Condition exists", "Condition forall"}, {"Condition exists", "Condition ~exists"},
		{"(3 states)", "(2 states)"}, {"(3 states)", "(03 states)"}, {"(3 states)", "3 states"}, {"(3 states)", "(3 state)"}, {"(3 states)", "( 3 states)"},
		{":>0:EAX=0", "*>0:EAX=0"}, {":>0:EAX=0", "::>0:EAX=0"}, {":>0:EAX=0", ">0:EAX=0"}, {":>0:EAX=0", ":> 0:EAX=0"}, {":>0:EAX=0", "\t:>0:EAX=0"}, {":>0:EAX=0", ": >0:EAX=0"},
		{"\n2 ", "\n0 "}, {"\n2 ", "\n-2 "}, {"\n2 ", "\n+2 "}, {"\n2 ", "\n02 "}, {"\n2 ", "\n0x2 "}, {"\n2 ", "\n 2 "}, {"\n2 ", "\n"}, {"\n2 ", "\n3 "}, {"\n2 ", "\n18446744073709551618 "}, {"\n2 ", "\n9223372036854775808 "}, {"\n2 ", "\n36893488147419103234 "},
		{"1:EAX=1;", "1:EAX=01;"}, {"1:EAX=1;", "1:EAX=0x1;"}, {"1:EAX=1;", "1:EAX=1"}, {"1:EAX=1;", "1:EAX=1;;"}, {"1:EAX=1;", "1:EAX=1; "}, {"1:EAX=1;", "1:EAX=18446744073709551617;"}, {"1:EAX=1;", "01:EAX=1;"}, {"1:EAX=1;", "0x1:EAX=1;"}, {"1:EAX=1;", "1:EBX=1;"},
		{"1:EAX=1;", "2:EAX=1;"}, {"1:EAX=1;", "1:EAX=;"}, {"1:EAX=1;", "1:EAX;"}, {"1:EAX=1;", "1:EAX"}, {"1:EAX=1;", ""}, {"1:EAX=1;", "1:EAX==1;"}, {"1:EAX=1;", "1:EAX=1; x=1;"}, {"EAX=0; 1:", "EAX=0;  1:"}, {"EAX=0; 1:", "EAX=0;1:"}, {"EAX=0; 1:", "EAX=0; ; 1:"},
		{"No\n", "Ok\n"}, {"No\n", "NO\n"}, {"No\n", "No \n"}, {"No\n", ""}, {"\n\nWit", "\n \nWit"}, {"\n\nWit", "\nWit"}, {"\n\nWit", "\n\n\nWit"}, {"Witnesses", "Witness"},
		{"is NOT validated", "is validated"}, {"is NOT validated", "is  NOT validated"}, {"is NOT validated", "is not validated"}, {"is NOT validated", "NOT validated"}, {"is NOT validated", "is NOT is validated"},
		{"0:EAX=0 /\\ 1:EAX=0", "(0:EAX=0 /\\ 1:EAX=0)"}, {"0:EAX=0 /\\ 1:EAX=0", "0:EAX=0  /\\ 1:EAX=0"}, {"0:EAX=0 /\\ 1:EAX=0", "0:EAX=0 /\\ 1:EAX=0x0"}, {"0:EAX=0 /\\ 1:EAX=0", "0:EAX=0 (**) /\\ 1:EAX=0"}, {"0:EAX=0 /\\ 1:EAX=0", "0:EAX=0 /\\"}, {"0:EAX=0 /\\ 1:EAX=0", ""}, {"0:EAX=0 /\\ 1:EAX=0", "00:EAX=0 /\\ 1:EAX=0"}, {"0:EAX=0 /\\ 1:EAX=0", "0:EAX=0 /\\ [x]=0"}, {"0:EAX=0 /\\ 1:EAX=0", "0:EAX=0 /\\ x=0"}, {"0:EAX=0 /\\ 1:EAX=0", "0:EAX=0 \\/ 1:EAX=0"},
		{"Never", "Sometimes"}, {"Never", "Always"}, {"Never", "never"}, {" 0 10\n", " 0 10"}, {" 0 10\n", " 0 11\n"}, {" 0 10\n", " 10 0\n"}, {" 0 10\n", " 0 10\n\n"}, {"Observation SB", "Observation BS"},
	} {
		x := strings.Replace(s, c[0], c[1], 1)
		if x == s {
			t.Fatalf("%q does not stand in the log", c[0])
		}
		noLog(t, x)
	}
	rows := strings.SplitAfter(s, "\n")
	for i := range rows {
		for k := range i {
			swapped := slices.Clone(rows)
			swapped[i], swapped[k] = swapped[k], swapped[i]
			if x := strings.Join(swapped, ""); x != s {
				noLog(t, x)
			}
		}
		if i < len(rows)-1 {
			noLog(t, strings.Join(slices.Delete(slices.Clone(rows), i, i+1), ""))
			noLog(t, strings.Join(slices.Insert(slices.Clone(rows), i, rows[i]), ""))
		}
	}
	for _, x := range []string{"", "\n", strings.Repeat("\n", 8), strings.Repeat("\n", 9), strings.Repeat("\n", 1<<20), strings.Repeat("1:>\n", 1<<18), "\x00", sbFile} {
		noLog(t, x)
	}
}

const sbFile = "X86 SB\n{ x=0; y=0; }\n P0 | P1 ;\n MOV [x],$1 | MOV [y],$1 ;\n MOV EAX,[y] | MOV EAX,[x] ;\nexists (0:EAX=0 /\\ 1:EAX=0)\n"

// 30.2: logs that say what no right histogram has, though all else fits.
func TestLogsOfWrong(t *testing.T) {
	// Their logs are those of others, which are right: what is wrong with them is not written.
	unseen := []string{"a value behind the end", "a value at the last place", "references without rows", "references without rows, though nobody asks"}
	held := 0
	for what, h := range wrongHists() {
		if !canBeWritten(h) || slices.Contains(unseen, what) {
			continue
		}
		if g, err := hist.Parse(saysLog(h)); err != api.ErrHist || !isZero(g) {
			t.Errorf("Parse, %s: %v, %v", what, g, err)
		}
		held++
	}
	if held < 60 {
		t.Errorf("%d logs", held)
	}
	many := api.Hist{Name: "t", Quant: api.Exists, Cond: api.Cond{{Op: api.CTrue}}, Rows: []api.Row{{Count: 1, Final: api.Final{N: 48}}}}
	for i := range 48 {
		many.Refs = append(many.Refs, loc(fmt.Sprintf("l%02d", i)))
	}
	s := textOf(t, many)
	noLog(t, strings.Replace(s, "l47=0;", "l47=0; l48=0;", 1))
	noLog(t, strings.Replace(s, "l47=0;", "l47=0;"+strings.Repeat(" x=0;", 100000), 1))
}

// canBeWritten tells whether a histogram that is not right has lines as a right one has.
func canBeWritten(h api.Hist) bool {
	if h.Quant < api.Exists || h.Quant > api.Forall || len(h.Cond) == 0 || len(h.Refs) > 48 {
		return false
	}
	return !slices.ContainsFunc(h.Rows, func(r api.Row) bool { return r.Final.N != len(h.Refs) })
}

// 30.2: blanks behind counts are any number, and nothing else is.
func TestBlanks(t *testing.T) {
	roll := dice(3021)
	for range 2000 {
		h := someHist(roll)
		s := textOf(t, h)
		x := rowForm.ReplaceAllStringFunc(s, func(l string) string {
			m := rowForm.FindStringSubmatch(l)
			return m[1] + strings.Repeat(" ", pick(roll, []int{0, 0, 1, 5, 6, 7, 100})) + m[2]
		})
		if g, err := hist.Parse(x); err != nil || !same(g, h) {
			t.Fatalf("Parse(%q): %v, %v; want %v", x, g, err, h)
		}
	}
	for _, blank := range []string{"\t", "\u00a0", "\r", "\v", "(**)", "\n", "_"} {
		s := textOf(t, seen())
		for _, c := range []string{"2" + blank + "     :>", "2     " + blank + ":>", "2  " + blank + "   :>", "2" + blank + ":>"} {
			noLog(t, strings.Replace(s, "2     :>", c, 1))
		}
	}
}

// 30.2: logs with a few bytes or lines changed.
func TestEdits(t *testing.T) {
	roll := dice(3022)
	logs := 0
	for range 20000 {
		s := textOf(t, someHist(roll))
		for range 1 + roll(3) {
			s = edited(roll, s)
		}
		if checkParse(t, s) {
			logs++
		}
	}
	if logs < 200 {
		t.Errorf("%d are logs", logs)
	}
}

// edited is a text with some place of it changed.
func edited(roll func(int) int, s string) string {
	words := []string{" ", "  ", "0", "1", "-", "\n", ":", ";", "*>", ":>", "=", "x", "~", "Ok", "No", "Never", "Always", " is validated", "true", "(", ")", "NOT ", "Test ", "1     :>\n", "1:>x=0;\n"}
	i := roll(len(s) + 1)
	k := min(len(s), i+roll(4))
	switch roll(5) {
	case 0:
		return s[:i] + s[k:]
	case 1:
		return s[:i] + pick(roll, words) + s[k:]
	case 2: // the numbers of a line that another one must fit to
		return strings.Replace(s, pick(roll, words), pick(roll, words), 1)
	case 3: // blanks behind a count
		return strings.Replace(s, pick(roll, []string{" :>", " *>", "  :>", ":>", "*>"}), pick(roll, []string{":>", "*>", " :>", " *>"}), 1)
	}
	l := strings.SplitAfter(s, "\n")
	a, b := roll(len(l)), roll(len(l))
	l[a], l[b] = l[b], l[a]
	return strings.Join(l, "")
}

// 30.2, 30.7: how long a text may be, which is more than Text answers of what it says, or less.
func TestLongLogs(t *testing.T) {
	h := long(api.MaxText)
	s := textOf(t, h)
	if g, err := hist.Parse(s); err != nil || !same(g, h) {
		t.Errorf("Parse of %d bytes: %v", len(s), err)
	}
	for _, x := range []string{s + "\n", s + " ", strings.Replace(s, "1     :>", "1      :>", 1), strings.Repeat("\n", api.MaxText+1), strings.Repeat(s, 3)} {
		if g, err := hist.Parse(x); err != api.ErrLong || !isZero(g) {
			t.Errorf("Parse of %d bytes: %s, %v", len(x), short(g), err)
		}
	}
	// A log may be read though it is too long as Text writes it.
	h = long(api.MaxText + 100)
	x := squeezed(saysLog(h))
	if g, err := hist.Parse(x); err != nil || !same(g, h) {
		t.Errorf("Parse of %d bytes: %v", len(x), err)
	}
	if _, e := hist.Text(h); e != api.ErrLong {
		t.Errorf("Text of what Parse answered: %d", e)
	}
	// And with more blanks than rows.
	h = seen()
	s = textOf(t, h)
	x = strings.Replace(s, "2     :>", "2     "+strings.Repeat(" ", api.MaxText-len(s))+":>", 1)
	if g, err := hist.Parse(x); err != nil || !same(g, h) || len(x) != api.MaxText {
		t.Errorf("Parse of many blanks: %v", err)
	}
}

// 30.2: each name that a log's words could be taken for.
func TestWordsAsNames(t *testing.T) {
	for _, name := range someNames() {
		for quant := api.Exists; quant <= api.Forall; quant++ {
			for _, v := range []int64{0, -1, math.MinInt64, math.MaxInt64} {
				for _, c := range []api.Cond{{{Op: api.CTrue}}, {is(loc(name), v)}, {is(reg(9999, name), v), is(loc(name), v), {Op: api.COr, A: 0, B: 1}}} {
					h := api.Hist{Name: name, Quant: quant, Refs: []api.Ref{reg(3, "x"), reg(9999, name), loc(name)}, Rows: []api.Row{row(1, v, 0, v), row(12345678, v, 7, v)}, Cond: c}
					hold(t, name, h)
				}
			}
		}
	}
}
