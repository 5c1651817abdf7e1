package lexis_test

import (
	"errors"
	"iter"
	"slices"
	"strings"
	"testing"

	"weir/api"
	"weir/lexis"
)

// in is a token at a place of a text of one line.
func in(kind int, text string, value int64, at, end int) api.Token {
	return api.Token{Kind: kind, Text: text, Value: value, Line: 1, Col: at + 1, At: at, End: end}
}

func checkAll(t *testing.T, s string, want ...api.Token) {
	t.Helper()
	if got, err := lexis.All(s); err != nil || !slices.Equal(got, want) {
		t.Errorf("All(%.80q): %v, %v; want %v", s, got, err, want)
	}
}

func checkWrong(t *testing.T, s string, line, col int, want api.Errno) {
	t.Helper()
	got, err := lexis.All(s)
	if len(got) != 0 || !samePlace(err, &api.PosError{Line: line, Col: col, Err: want}) {
		t.Errorf("All(%.80q): %v, %v; want %d at %d:%d", s, got, err, want, line, col)
	}
}

// 5.1, 5.3: the chapter's examples.
func TestExamples(t *testing.T) {
	checkAll(t, "MOV EAX,[x]",
		in(api.TName, "MOV", 0, 0, 3), in(api.TName, "EAX", 0, 4, 7), in(api.TSign, ",", 0, 7, 8),
		in(api.TSign, "[", 0, 8, 9), in(api.TName, "x", 0, 9, 10), in(api.TSign, "]", 0, 10, 11))
	checkAll(t, "0:EAX=-1",
		in(api.TNumber, "0", 0, 0, 1), in(api.TSign, ":", 0, 1, 2), in(api.TName, "EAX", 0, 2, 5),
		in(api.TSign, "=", 0, 5, 6), in(api.TNumber, "-1", -1, 6, 8))
	checkAll(t, "$0x10", in(api.TSign, "$", 0, 0, 1), in(api.TNumber, "0x10", 16, 1, 5))
	checkAll(t, "SB+mfence+po", in(api.TName, "SB+mfence+po", 0, 0, 12))
	checkAll(t, "po+|rf",
		in(api.TName, "po", 0, 0, 2), in(api.TSign, "+", 0, 2, 3), in(api.TSign, "|", 0, 3, 4), in(api.TName, "rf", 0, 4, 6))
	checkAll(t, "rf^-1;co",
		in(api.TName, "rf", 0, 0, 2), in(api.TSign, "^-1", 0, 2, 5), in(api.TSign, ";", 0, 5, 6), in(api.TName, "co", 0, 6, 8))
	checkAll(t, `a/\~b`,
		in(api.TName, "a", 0, 0, 1), in(api.TSign, `/\`, 0, 1, 3), in(api.TSign, "~", 0, 3, 4), in(api.TName, "b", 0, 4, 5))
	checkAll(t, `a\b`, in(api.TName, "a", 0, 0, 1), in(api.TSign, `\`, 0, 1, 2), in(api.TName, "b", 0, 2, 3))
	checkAll(t, "(* a (* b *) c *) d", in(api.TName, "d", 0, 18, 19))
	checkWrong(t, "a - b", 1, 3, api.ErrToken)
	checkWrong(t, "(* a (* b *)", 1, 1, api.ErrComment)
	checkWrong(t, "12ab", 1, 1, api.ErrNumber)
	checkWrong(t, `"a`, 1, 3, api.ErrToken)
}

// 5.1: tokens that hang on what stands right behind them.
func TestNeighbours(t *testing.T) {
	checkAll(t, "a-1", in(api.TName, "a-1", 0, 0, 3))
	checkAll(t, "a.+b", in(api.TName, "a.+b", 0, 0, 4))
	checkAll(t, "a+_", in(api.TName, "a+_", 0, 0, 3))
	checkAll(t, "a+-1", in(api.TName, "a", 0, 0, 1), in(api.TSign, "+", 0, 1, 2), in(api.TNumber, "-1", -1, 2, 4))
	checkAll(t, "5-3", in(api.TNumber, "5", 5, 0, 1), in(api.TNumber, "-3", -3, 1, 3))
	checkAll(t, "1+2", in(api.TNumber, "1", 1, 0, 1), in(api.TSign, "+", 0, 1, 2), in(api.TNumber, "2", 2, 2, 3))
	checkAll(t, "^-12", in(api.TSign, "^-1", 0, 0, 3), in(api.TNumber, "2", 2, 3, 4))
	checkAll(t, `/\\/\`, in(api.TSign, `/\`, 0, 0, 2), in(api.TSign, `\/`, 0, 2, 4), in(api.TSign, `\`, 0, 4, 5))
	checkAll(t, "*)( *", in(api.TSign, "*", 0, 0, 1), in(api.TSign, ")", 0, 1, 2), in(api.TSign, "(", 0, 2, 3), in(api.TSign, "*", 0, 4, 5))
	checkAll(t, `"""(*"`, in(api.TString, "", 0, 0, 2), in(api.TString, "(*", 0, 2, 6))
	checkAll(t, `(*"*)x"(*)"`, in(api.TName, "x", 0, 5, 6), in(api.TString, "(*)", 0, 6, 11))
}

// 5.2: what is wrong, and where.
func TestWrong(t *testing.T) {
	checkWrong(t, "a\n b (*\n(**)*", 2, 4, api.ErrComment)
	checkWrong(t, "(**)\n(*)", 2, 1, api.ErrComment)
	checkWrong(t, "(*(*)*)", 1, 1, api.ErrComment)
	checkWrong(t, "a\n\n /", 3, 2, api.ErrToken)
	checkWrong(t, "//\\", 1, 1, api.ErrToken)
	checkWrong(t, "a^-2", 1, 2, api.ErrToken)
	checkWrong(t, "^1", 1, 1, api.ErrToken)
	checkWrong(t, "--1", 1, 1, api.ErrToken)
	checkWrong(t, "a--1", 1, 2, api.ErrToken)
	checkWrong(t, "a+.b", 1, 3, api.ErrToken)
	checkWrong(t, "a-", 1, 2, api.ErrToken)
	checkWrong(t, "\"ab\nc\"", 1, 4, api.ErrToken)
	checkWrong(t, "x\n \"ab\nc", 2, 5, api.ErrToken)
	checkWrong(t, "x\n \"ab", 2, 5, api.ErrToken)
	checkWrong(t, "x\n -1.5", 2, 2, api.ErrNumber)
	checkWrong(t, "0x", 1, 1, api.ErrNumber)
	checkWrong(t, "1_0", 1, 1, api.ErrNumber)
	checkWrong(t, "x=18446744073709551616", 1, 3, api.ErrBig)
	checkWrong(t, "x=-9223372036854775809", 1, 3, api.ErrBig)
	checkWrong(t, "x=99999999999999999999y", 1, 3, api.ErrNumber)
	checkWrong(t, "a\x00", 1, 2, api.ErrToken)
	checkWrong(t, "\v", 1, 1, api.ErrToken)
	checkWrong(t, "\f", 1, 1, api.ErrToken)
	checkWrong(t, "\u00a0", 1, 1, api.ErrToken)
	checkWrong(t, "é", 1, 1, api.ErrToken)
}

// 5.1 to 5.3: all short texts of bytes at which something turns, and each byte at places where it counts.
func TestShortTexts(t *testing.T) {
	texts("a0.+-\"\n (*)/\\^1x%", 4, func(s string) { check(t, s) })
	texts("(*)\n a", 7, func(s string) { check(t, s) })
	for _, ahead := range []string{"", "a", "a+", "a-", "a.", "1", "-", "0x", "/", `\`, "^", "^-", "(", "(*", "(*)", `"`, "a\n", "\r"} {
		for _, behind := range []string{"", "a", "1", "-1", "*)", `"`, " b"} {
			for c := range 256 {
				check(t, ahead+string([]byte{byte(c)})+behind)
			}
		}
	}
}

// 5.1 to 5.3: longer texts.
func TestUnrulyTexts(t *testing.T) {
	for _, s := range unruly(5, 30000) {
		check(t, s)
	}
}

// 5.1, 5.2, 5.4: names just within, and just beyond, their bound.
func TestLongNames(t *testing.T) {
	most, more := strings.Repeat("n", 64), strings.Repeat("n", 65)
	checkAll(t, most, in(api.TName, most, 0, 0, 64))
	checkAll(t, most+"+", in(api.TName, most, 0, 0, 64), in(api.TSign, "+", 0, 64, 65))
	checkAll(t, most[:62]+"-1", in(api.TName, most[:62]+"-1", 0, 0, 64))
	checkWrong(t, more, 1, 1, api.ErrLong)
	checkWrong(t, "a\n "+more, 2, 2, api.ErrLong)
	checkWrong(t, most+"-", 1, 65, api.ErrToken)
	checkWrong(t, most+"-b", 1, 1, api.ErrLong)
	checkWrong(t, most+".", 1, 1, api.ErrLong)
	checkWrong(t, most+"1%", 1, 1, api.ErrLong)
	if !lexis.Name(most) || lexis.Name(more) || lexis.Name(most+"-") || lexis.Name(strings.Repeat("n", api.MaxText+1)) {
		t.Error("Name of a long text")
	}
}

// 5.1, 5.2: texts as long as can be, and longer ones.
func TestLongTexts(t *testing.T) {
	const size = api.MaxText
	whole := func(kind int, text string) api.Token { return in(kind, text, 0, 0, size) }
	checkAll(t, strings.Repeat(" ", size))
	checkAll(t, strings.Repeat("0", size), whole(api.TNumber, strings.Repeat("0", size)))
	checkAll(t, `"`+strings.Repeat("é", size/2-1)+`"`, whole(api.TString, strings.Repeat("é", size/2-1)))
	checkAll(t, strings.Repeat("(*", size/4)+strings.Repeat("*)", size/4))
	checkWrong(t, strings.Repeat("(*", size/4)+strings.Repeat("*)", size/4-1)+"\n", 1, 1, api.ErrComment)
	checkWrong(t, strings.Repeat("\n", size-1)+"%", size, 1, api.ErrToken)
	checkWrong(t, strings.Repeat("9", size), 1, 1, api.ErrBig)
	if l, err := lexis.All(strings.Repeat("*\n", size/2)); err != nil || len(l) != size/2 || l[size/2-1] != (api.Token{Kind: api.TSign, Text: "*", Line: size / 2, Col: 1, At: size - 2, End: size - 1}) {
		t.Errorf("All of %d lines: %d tokens, %v", size/2, len(l), err)
	}
	for _, s := range []string{strings.Repeat(" ", size+1), strings.Repeat("a ", size), strings.Repeat("n", size+1), "(*" + strings.Repeat("%", 3*size)} {
		checkTooLong(t, s)
	}
}

// checkTooLong asks for a plain api.Errno, at once and at every call.
func checkTooLong(t *testing.T, s string) {
	t.Helper()
	if l, err := lexis.All(s); len(l) != 0 || err != api.ErrLong {
		t.Errorf("All of %d bytes: %d tokens, %v", len(s), len(l), err)
	}
	l := lexis.New(s)
	for range 3 {
		if k, err := l.Next(); k != (api.Token{}) || err != api.ErrLong {
			t.Errorf("Next of %d bytes: %v, %v", len(s), k, err)
		}
	}
	n := 0
	for k, err := range lexis.Tokens(s) {
		if n++; n > 1 || k != (api.Token{}) || err != api.ErrLong {
			t.Errorf("Tokens of %d bytes, %d: %v, %v", len(s), n, k, err)
		}
	}
	if n != 1 {
		t.Errorf("Tokens of %d bytes: %d steps", len(s), n)
	}
}

// 5.1: the end and the error come from then on; who changes the error that he was handed changes no other one.
func TestNextStays(t *testing.T) {
	l := lexis.New("a\n")
	l.Next()
	for range 5 {
		if k, err := l.Next(); err != nil || k != (api.Token{Kind: api.TEnd, Line: 2, Col: 1, At: 2, End: 2}) {
			t.Errorf("Next at the end: %v, %v", k, err)
		}
	}
	for s, want := range map[string]api.PosError{
		"a\n%b":       {Line: 2, Col: 1, Err: api.ErrToken},
		"a (* b":      {Line: 1, Col: 3, Err: api.ErrComment},
		"a \"b\n c\"": {Line: 1, Col: 5, Err: api.ErrToken},
		"a 1b c":      {Line: 1, Col: 3, Err: api.ErrNumber},
	} {
		l := lexis.New(s)
		l.Next()
		for range 4 {
			k, err := l.Next()
			var p *api.PosError
			if k != (api.Token{}) || !errors.As(err, &p) || *p != want {
				t.Fatalf("Next of %.80q: %v, %v; want %v", s, k, err, want)
			}
			*p = api.PosError{Line: 77, Col: 78, Err: api.ErrName}
		}
	}
}

// 5.1: lexers know nothing of each other.
func TestLexersApart(t *testing.T) {
	one, two := lexis.New("a b"), lexis.New("c\n d %")
	for _, want := range []string{"a", "b", ""} {
		if k, err := one.Next(); err != nil || k.Text != want {
			t.Errorf("Next: %v, %v; want %q", k, err, want)
		}
		two.Next()
	}
	if _, err := two.Next(); !samePlace(err, &api.PosError{Line: 2, Col: 4, Err: api.ErrToken}) {
		t.Errorf("Next: %v", err)
	}
}

// 5.3: iterators are left early, gone over again, within themselves, and pulled.
func TestTokensTwice(t *testing.T) {
	all := lexis.Tokens("a 1 %")
	want := []string{"a", "1", ""}
	for stop := range 4 {
		n := 0
		for k, err := range all {
			if n == stop {
				break
			}
			if k.Text != want[n] || (err != nil) != (n == 2) {
				t.Errorf("Tokens, %d: %v, %v", n, k, err)
			}
			n++
		}
	}
	pairs := 0
	for a := range all {
		n := 0
		for b, err := range all {
			if pairs++; b.Text != want[n] || (err != nil) != (n == 2) {
				t.Errorf("Tokens within %v, %d: %v, %v", a, n, b, err)
			}
			n++
		}
	}
	if pairs != 9 {
		t.Errorf("Tokens within themselves: %d pairs", pairs)
	}
	next, stop := iter.Pull2(all)
	defer stop()
	for i := range want {
		if k, err, ok := next(); !ok || k.Text != want[i] || (err != nil) != (i == 2) {
			t.Errorf("Tokens pulled, %d: %v, %v, %v", i, k, err, ok)
		}
	}
	if k, err, ok := next(); ok {
		t.Errorf("Tokens pulled at the end: %v, %v", k, err)
	}
}

// 5.3: each way through has an error of its own, and each list is its own.
func TestAnswersApart(t *testing.T) {
	all := lexis.Tokens("%")
	for range 3 {
		for _, err := range all {
			var p *api.PosError
			if !errors.As(err, &p) || *p != (api.PosError{Line: 1, Col: 1, Err: api.ErrToken}) {
				t.Fatalf("Tokens: %v", err)
			}
			p.Line = 99
		}
	}
	const s = "a b c d e"
	one, _ := lexis.All(s)
	two, _ := lexis.All(s)
	one = one[:cap(one)]
	for i := range one {
		one[i] = api.Token{Kind: 9}
	}
	three, _ := lexis.All(s)
	if want, _ := saysAll(s); !slices.Equal(two, want) || !slices.Equal(three, want) {
		t.Errorf("All: %v, %v; want %v", two, three, want)
	}
}

// 5.4: names.
func TestName(t *testing.T) {
	is := func(s string) bool { return len(s) <= 64 && s != "" && namePattern.FindString(s) == s }
	judge := func(s string) {
		if got := lexis.Name(s); got != is(s) {
			t.Errorf("Name(%.80q): %v", s, got)
		}
	}
	texts("aZ_0.+- ", 5, judge)
	for c := range 256 {
		one := string([]byte{byte(c)})
		for _, s := range []string{one, one + "a", "a" + one, "a" + one + "b", "a+" + one, "a-" + one, "a" + one + "-"} {
			judge(s)
		}
	}
	for n := range 70 {
		for _, s := range []string{"+", "-", ".", "", "é", "\n"} {
			judge(strings.Repeat("n", n) + s)
			judge(strings.Repeat("n", n) + s + "1")
		}
	}
}

// 5.4: places.
func TestPlace(t *testing.T) {
	if line, col, ok := lexis.Place("ab\nc", 3); line != 2 || col != 1 || !ok {
		t.Errorf("Place: %d, %d, %v", line, col, ok)
	}
	texts("a\n\r", 6, func(s string) {
		for at := range len(s) + 1 {
			wantLine, wantCol := (&oracle{text: s}).spot(at)
			if line, col, ok := lexis.Place(s, at); line != wantLine || col != wantCol || !ok {
				t.Errorf("Place(%q, %d): %d, %d, %v; want %d, %d", s, at, line, col, ok, wantLine, wantCol)
			}
		}
		for _, at := range []int{-1, -2, len(s) + 1, len(s) + 2, -1 << 63, 1<<63 - 1} {
			if line, col, ok := lexis.Place(s, at); line != 0 || col != 0 || ok {
				t.Errorf("Place(%q, %d): %d, %d, %v", s, at, line, col, ok)
			}
		}
	})
	long := strings.Repeat("ab\n", api.MaxText)
	if line, col, ok := lexis.Place(long+"c", len(long)+1); line != api.MaxText+1 || col != 2 || !ok {
		t.Errorf("Place in a long text: %d, %d, %v", line, col, ok)
	}
}
