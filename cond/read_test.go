package cond_test

import (
	"errors"
	"slices"
	"strings"
	"testing"

	"weir/api"
	"weir/cond"
	"weir/lexis"
)

func checkParse(t *testing.T, s string, want ...api.Node) {
	t.Helper()
	if c, err := cond.Parse(s); err != nil || !slices.Equal(c, want) {
		t.Errorf("Parse(%.80q): %v, %v; want %v", s, c, err, want)
	}
}

func checkWrong(t *testing.T, s string, line, col int, want api.Errno) {
	t.Helper()
	c, err := cond.Parse(s)
	if c != nil || !samePlace(err, &api.PosError{Line: line, Col: col, Err: want}) {
		t.Errorf("Parse(%.80q): %v, %v; want %d at %d:%d", s, c, err, want, line, col)
	}
}

// 6.4: the chapter's examples.
func TestParseExamples(t *testing.T) {
	checkParse(t, `0:EAX=0 /\ 1:EBX=0`, is(reg(0, "EAX"), 0), is(reg(1, "EBX"), 0), and(0, 1))
	checkParse(t, `~(x=1 \/ [y]=0x10)`, is(loc("x"), 1), is(loc("y"), 16), or(0, 1), not(2))
	checkParse(t, `a=1 \/ b=1 /\ c=1 \/ d=1`, is(loc("a"), 1), is(loc("b"), 1), is(loc("c"), 1), and(1, 2), or(0, 3), is(loc("d"), 1), or(4, 5))
	checkParse(t, `a=1 /\ (b=1 /\ c=1)`, is(loc("a"), 1), is(loc("b"), 1), is(loc("c"), 1), and(1, 2), and(0, 3))
	checkParse(t, `((a=1))`, is(loc("a"), 1))
	checkParse(t, `true=1`, is(loc("true"), 1))
	checkWrong(t, "x=", 1, 3, api.ErrSyntax)
	checkWrong(t, "(x=1", 1, 5, api.ErrSyntax)
	checkWrong(t, "x=1 y", 1, 5, api.ErrSyntax)
	checkWrong(t, "12345:EAX=1", 1, 1, api.ErrSyntax)
}

// 6.3, 6.4: what may stand and what not, in the words of the grammar.
func TestParseWords(t *testing.T) {
	checkParse(t, "true", yes())
	checkParse(t, "0:true=1", is(reg(0, "true"), 1))
	checkParse(t, "[true]=1", is(loc("true"), 1))
	checkParse(t, "~~true", yes(), not(0), not(1))
	checkParse(t, "9999:r=-1", is(reg(9999, "r"), -1))
	checkParse(t, "0012:r=18446744073709551615", is(reg(12, "r"), -1))
	checkParse(t, "True=1", is(loc("True"), 1))
	checkParse(t, "~x=1/\\~y=2", is(loc("x"), 1), not(0), is(loc("y"), 2), not(2), and(1, 3))
	checkParse(t, "(* a *) x\n=\t1 (**)", is(loc("x"), 1))
	checkParse(t, `a=0\/(b=0\/c=0)\/d=0`, is(loc("a"), 0), is(loc("b"), 0), is(loc("c"), 0), or(1, 2), or(0, 3), is(loc("d"), 0), or(4, 5))
	checkWrong(t, "", 1, 1, api.ErrSyntax)
	checkWrong(t, " \n (* *)", 2, 7, api.ErrSyntax)
	checkWrong(t, "x=1 /\\\n", 2, 1, api.ErrSyntax)
	checkWrong(t, "x=\n ", 2, 2, api.ErrSyntax)
	checkWrong(t, "x", 1, 2, api.ErrSyntax)
	checkWrong(t, "x==1", 1, 3, api.ErrSyntax)
	checkWrong(t, "x=y", 1, 3, api.ErrSyntax)
	checkWrong(t, "x=1)", 1, 4, api.ErrSyntax)
	checkWrong(t, "()", 1, 2, api.ErrSyntax)
	checkWrong(t, "(x=1]", 1, 5, api.ErrSyntax)
	checkWrong(t, "[x=1", 1, 3, api.ErrSyntax)
	checkWrong(t, "[0:x]=1", 1, 2, api.ErrSyntax)
	checkWrong(t, "0:[x]=1", 1, 3, api.ErrSyntax)
	checkWrong(t, "0:1=1", 1, 3, api.ErrSyntax)
	checkWrong(t, "0=1", 1, 2, api.ErrSyntax)
	checkWrong(t, "-1:x=1", 1, 1, api.ErrSyntax)
	checkWrong(t, "0x1:x=1", 1, 1, api.ErrSyntax)
	checkWrong(t, "00001:x=1", 1, 1, api.ErrSyntax)
	checkWrong(t, "0:true", 1, 7, api.ErrSyntax)
	checkWrong(t, "true true", 1, 6, api.ErrSyntax)
	checkWrong(t, "true(", 1, 5, api.ErrSyntax)
	checkWrong(t, "true=", 1, 6, api.ErrSyntax)
	checkWrong(t, "x=1 /\\ /\\ y=1", 1, 8, api.ErrSyntax)
	checkWrong(t, `x=1 \ y=1`, 1, 5, api.ErrSyntax)
	checkWrong(t, `"x"=1`, 1, 1, api.ErrSyntax)
	checkWrong(t, "x=1 ~y=1", 1, 5, api.ErrSyntax)
}

// 6.4: what lexis has to say comes first, wherever it stands.
func TestParseTokens(t *testing.T) {
	checkWrong(t, "x=1 /\\\n!", 2, 1, api.ErrToken)
	checkWrong(t, "x x x\n %", 2, 2, api.ErrToken)
	checkWrong(t, ") (* ", 1, 3, api.ErrComment)
	checkWrong(t, "x=99999999999999999999", 1, 3, api.ErrBig)
	checkWrong(t, "x=1b", 1, 3, api.ErrNumber)
	checkWrong(t, strings.Repeat("n", 65)+"=1", 1, 1, api.ErrLong)
	for _, s := range []string{strings.Repeat(" ", api.MaxText+1), "x=1" + strings.Repeat(" ", api.MaxText-2), strings.Repeat("%", api.MaxText+1)} {
		if c, err := cond.Parse(s); c != nil || err != error(api.ErrLong) {
			t.Errorf("Parse of %d bytes: %v, %v", len(s), c, err)
		}
	}
	checkParse(t, "x=1"+strings.Repeat("\n", api.MaxText-3), is(loc("x"), 1))
	checkWrong(t, "x="+strings.Repeat("\n", api.MaxText-2), api.MaxText-1, 1, api.ErrSyntax)
}

// 6.4: Parse is Take of the tokens and an end.
func TestParseIsTake(t *testing.T) {
	roll := dice(64)
	words := []string{"x", "true", "=", "1", "0", "[", "]", ":", "(", ")", "~", `/\`, `\/`, "x=1", "0:EAX=0", "[y]=2", "\n", "%", `"s"`, "12345"}
	for range 40000 {
		var b strings.Builder
		for range roll() % 9 {
			b.WriteString(words[roll()%uint64(len(words))] + " ")
		}
		s := b.String()
		l, fault := lexis.All(s)
		c, err := cond.Parse(s)
		if fault != nil {
			var p *api.PosError
			if !errors.As(fault, &p) || !samePlace(err, p) || c != nil {
				t.Errorf("Parse(%q): %v, %v; want %v", s, c, err, fault)
			}
			continue
		}
		line, col, _ := lexis.Place(s, len(s))
		l = append(l, api.Token{Kind: api.TEnd, Line: line, Col: col})
		want, end, wrong := (&oracle{tokens: l}).take(0)
		if wrong == nil && l[end].Kind != api.TEnd {
			want, wrong = nil, &api.PosError{Line: l[end].Line, Col: l[end].Col, Err: api.ErrSyntax}
		}
		if !slices.Equal(c, want) || wrong == nil && err != nil || wrong != nil && !samePlace(err, wrong) {
			t.Errorf("Parse(%q): %v, %v; want %v, %v", s, c, err, want, wrong)
		}
	}
}

// 6.3: all short lists of tokens, and longer ones of whole equations.
func TestShortLists(t *testing.T) {
	var single [][]api.Token
	for _, s := range signs("(", ")", "~", "[", "]", "=", ":", `/\`, `\/`) {
		single = append(single, []api.Token{s})
	}
	for _, k := range []api.Token{name("x"), name("true"), number("1", 1), number("12345", 12345), {}} {
		single = append(single, []api.Token{k})
	}
	lists(single, 5, func(l []api.Token) { checkTake(t, l, 0) })
	var whole [][]api.Token
	for _, s := range []string{"x=1", "true", "(", ")", "~", `/\`, `\/`} {
		whole = append(whole, tokensOf(t, s))
	}
	lists(whole, 6, func(l []api.Token) { checkTake(t, l, 0) })
	lists([][]api.Token{tokensOf(t, "0:x=1"), tokensOf(t, "[y]=2"), tokensOf(t, "("), tokensOf(t, ")"), tokensOf(t, `\/`)}, 4, func(l []api.Token) {
		for at := range len(l) + 1 {
			checkTake(t, l, at)
		}
	})
}

// 6.3: unruly lists, of tokens that lexis would not make too.
func TestUnrulyLists(t *testing.T) {
	roll := dice(63)
	odd := append(signs("(", ")", "~", "[", "]", "=", ":", `/\`, `\/`, "x", "true", "1", "", ",", `\`), name("x"), name("true"), name("1"), name(""), name("="),
		name("("), name(strings.Repeat("n", 64)), name(strings.Repeat("n", 65)), name("x "), number("1", 1), number("007", 9), number("", 3), number("x", 4), number("true", 4), number("=", 5), number("1 ", 2), number("+1", 1), number("-1", -1), number("12a", 1), number("9999", 0), number("10000", 0),
		api.Token{Kind: api.TString, Text: "x"}, api.Token{Kind: api.TString, Text: "("}, api.Token{Kind: api.TString, Text: "1", Value: 1}, api.Token{Text: "true"}, api.Token{Text: "(", Value: 1}, api.Token{Kind: -1, Text: "x"}, api.Token{Kind: 5, Text: "("}, api.Token{Kind: 99, Text: "1", Value: 1})
	good := []string{"x=1", "true", "true=0", "0:EAX=1", "[y]=-3", "(", ")", "~", "~(", `/\`, `\/`, `/\`, `\/`, `x=1 \/`, `/\ y=0`}
	for range 60000 {
		var l []api.Token
		for range 1 + roll()%12 {
			if roll()%6 == 0 {
				l = append(l, odd[roll()%uint64(len(odd))])
			} else {
				l = append(l, tokensOf(t, good[roll()%uint64(len(good))])...)
			}
		}
		checkTake(t, placed(l...), int(roll()%uint64(len(l)+1))*int(roll()%2))
	}
}

// 6.3: tokens count by Kind, Text and Value alone.
func TestMadeTokens(t *testing.T) {
	eq, colon := signs("=")[0], signs(":")[0]
	for _, x := range []struct {
		l    []api.Token
		want api.Node
	}{
		{placed(name("x"), eq, number("what", 7)), is(loc("x"), 7)},
		{placed(name("x"), eq, number("", -1<<63)), is(loc("x"), -1<<63)},
		{placed(number("0007", 99999), colon, name("r"), eq, number("5", 6)), is(reg(7, "r"), 6)},
		{placed(number("0", -5), colon, name("true"), eq, number("5", 5)), is(reg(0, "true"), 5)},
	} {
		c, end, err := cond.Take(x.l, 0)
		if err != nil || end != len(x.l) || !slices.Equal(c, api.Cond{x.want}) || cond.Check(c) != api.OK {
			t.Errorf("Take(%v): %v, %d, %v; want %v", x.l, c, end, err, x.want)
		}
	}
	// Places of tokens are told as they stand, whatever they are.
	for _, line := range []int{0, -4, 1 << 62} {
		l := []api.Token{{Kind: api.TName, Text: "x", Line: 3, Col: 4}, {Kind: api.TEnd, Line: line, Col: -line}}
		if _, _, err := cond.Take(l, 0); !samePlace(err, &api.PosError{Line: line, Col: -line, Err: api.ErrSyntax}) {
			t.Errorf("Take: %v; want line %d", err, line)
		}
	}
}

// 6.3: Take reads the longest condition, from any place on, and no further.
func TestTakePlaces(t *testing.T) {
	l := tokensOf(t, `exists x=1 /\ (y=2) ) z`)
	c, end, err := cond.Take(l, 1)
	if err != nil || end != 10 || !slices.Equal(c, api.Cond{is(loc("x"), 1), is(loc("y"), 2), and(0, 1)}) {
		t.Errorf("Take: %v, %d, %v", c, end, err)
	}
	for _, at := range []int{-1, len(l) + 1, -1 << 63, 1<<63 - 1} {
		if c, end, err := cond.Take(l, at); c != nil || end != 0 || err != error(api.ErrRange) {
			t.Errorf("Take at %d: %v, %d, %v", at, c, end, err)
		}
	}
	if c, end, err := cond.Take(nil, 1); c != nil || end != 0 || err != error(api.ErrRange) {
		t.Errorf("Take of none at 1: %v, %d, %v", c, end, err)
	}
	for _, none := range [][]api.Token{nil, {}} {
		if c, end, err := cond.Take(none, 0); c != nil || end != 0 || !samePlace(err, &api.PosError{Err: api.ErrSyntax}) {
			t.Errorf("Take of none: %v, %d, %v", c, end, err)
		}
	}
	for at := range len(l) + 1 {
		checkTake(t, l, at)
	}
	// Where the list ends the last token of the list is told, though nothing was read of it.
	if _, _, err := cond.Take(l, len(l)); !samePlace(err, &api.PosError{Line: 1, Col: 23, Err: api.ErrSyntax}) {
		t.Errorf("Take at the end: %v", err)
	}
}

// 6.3: ( and ~ just within, and just beyond, their bound.
func TestReadDepth(t *testing.T) {
	for _, s := range []string{"(", "~"} {
		for k := range 65 {
			// k of one kind around 64-k of the other kind.
			other := "(~"[strings.Index("~(", s):][:1]
			ahead := strings.Repeat(s, k) + strings.Repeat(other, 64-k)
			behind := strings.Repeat(")", strings.Count(ahead, "("))
			if _, err := cond.Parse(ahead + "x=1" + behind); err != nil {
				t.Errorf("Parse of 64 deep: %v", err)
			}
			for _, more := range []string{"(", "~"} {
				checkWrong(t, ahead+more+"x=1", 1, 65, api.ErrDepth)
				checkWrong(t, ahead+"x=1"+behind+"\n"+more, 2, 1, api.ErrSyntax)
				checkWrong(t, "true /\\\n"+ahead+more, 2, 65, api.ErrDepth)
			}
		}
	}
	// What is closed is closed: a ~ at the end of what it is ahead of.
	deep := strings.Repeat("(", 63)
	checkWrong(t, deep+`~x=1 /\ ~(y=1`, 1, 63+9+1, api.ErrDepth)
	checkWrong(t, deep+`~x=1 /\ (y=1 /\ ~z=1`, 1, 63+8+9, api.ErrDepth)
	checkWrong(t, deep+`~x=1 /\ ~y=1 \/ (z=1) /\ ~(`, 1, 63+27, api.ErrDepth)
	long := deep + strings.Repeat(`~x=1 /\ (y=1) \/ ~true /\ `, 20) + "true" + strings.Repeat(")", 63)
	if _, err := cond.Parse(long); err != nil {
		t.Errorf("Parse of many parts 64 deep: %v", err)
	}
	checkTake(t, tokensOf(t, strings.Repeat("~(", 2000)), 0)
	checkTake(t, tokensOf(t, strings.Repeat("(", 100000)), 0)
}

// 6.3: as many nodes as may be, and one more; the place is the last token of the first node too many.
func TestReadNodes(t *testing.T) {
	chain := func(n int) string { return strings.Repeat("x=1 /\\ ", n) }
	if c, err := cond.Parse(chain(511) + "~x=1"); err != nil || len(c) != 1024 || cond.Check(c) != api.OK {
		t.Errorf("Parse of 1024 nodes: %d nodes, %v", len(c), err)
	}
	checkWrong(t, chain(512)+"x=1", 1, 3587, api.ErrLong)
	line := "\n"
	for _, x := range []struct {
		s   string
		col int
		e   api.Errno
	}{
		// Ahead of the second line 1023 nodes have been read, or, where it does not begin with a sign, 1024.
		{"(x=1)", 4, api.ErrLong},
		{"(x=", 4, api.ErrSyntax},
		{"~~~)", 4, api.ErrSyntax},
		{"((true", 3, api.ErrLong},
		{`\/ (x=1)`, 8, api.ErrLong},
		{`\/ ((x=1))`, 10, api.ErrLong},
		{`\/ ((x=1) y`, 11, api.ErrSyntax},
		{`\/ ((x=1`, 9, api.ErrSyntax},
		{`\/ x=1`, 6, api.ErrLong},
		{`\/ x=1 y`, 6, api.ErrLong},
		{`\/ true`, 4, api.ErrLong},
		{`\/ ~true`, 5, api.ErrLong},
		{`\/ ~x=`, 7, api.ErrSyntax},
		{`\/ x=1 /\ )`, 11, api.ErrSyntax},
		{`\/ x=1 /\ true`, 11, api.ErrLong},
		{`\/ x=1 \/ )`, 6, api.ErrLong},
	} {
		ahead := chain(511) + "x=1"
		if !strings.HasPrefix(x.s, `\/`) {
			ahead = chain(510) + "~~~x=1 /\\ "
		}
		checkWrong(t, ahead+line+x.s, 2, x.col, x.e)
	}
	checkTake(t, tokensOf(t, strings.Repeat(`x=1 /\ y=2 \/ `, 1500)+"true"), 0)
	checkTake(t, tokensOf(t, strings.Repeat(`(x=1 /\ ~y=2) \/ `, 1500)+"true"), 0)
}

// 6.3: lists around the bound of nodes, of every shape.
func TestUnrulyLong(t *testing.T) {
	roll := dice(1024)
	for range 300 {
		c := randomTree(roll, 340+int(roll()%60)).nodes()
		l := tokensOf(t, loose(roll, c))
		switch roll() % 3 {
		case 0:
			l = l[:len(l)-int(roll()%20)]
		case 1:
			l[len(l)-1-int(roll()%20)] = api.Token{Kind: api.TEnd, Line: 77, Col: 78}
		}
		checkTake(t, l, 0)
	}
}

// loose is a condition's text with brackets around parts that need not have them, and unruly blanks.
func loose(roll func() uint64, c api.Cond) string {
	blank := func() string { return []string{"", " ", "\n", "(* *)", "\t"}[roll()%5] }
	var text func(i int) string
	part := func(i int) string {
		s := text(i)
		for c[i].Op >= api.CAnd || roll()%5 == 0 {
			s = "(" + blank() + s + blank() + ")"
			if roll()%4 != 0 {
				break
			}
		}
		return blank() + s + blank()
	}
	text = func(i int) string {
		switch n := c[i]; n.Op {
		case api.CNot:
			return "~" + part(n.A)
		case api.CAnd:
			return part(n.A) + `/\` + part(n.B)
		case api.COr:
			return part(n.A) + `\/` + part(n.B)
		}
		s, _ := cond.Text(api.Cond{c[i]})
		return s
	}
	return part(len(c) - 1)
}

// 6.8: blanks and brackets change nothing; what was read is a condition, and is read of its text again.
func TestLooseTexts(t *testing.T) {
	roll := dice(68)
	for range 3000 {
		c := randomTree(roll, 1+int(roll()%8)).nodes()
		s := loose(roll, c)
		got, err := cond.Parse(s)
		if err != nil || !slices.Equal(got, c) {
			t.Errorf("Parse(%q): %v, %v; want %v", s, got, err, c)
		}
	}
}

// 6.7, 6.3: what is handed in stays as it is, what is handed out is its own, errors too.
func TestReadMemory(t *testing.T) {
	room := tokensOf(t, `x=1 /\ ~0:EAX=2 \/ true y z`)
	before := slices.Clone(room)
	l := room[:len(room)-2]
	one, _, _ := cond.Take(l, 0)
	two, _, _ := cond.Take(l, 0)
	want := slices.Clone(two)
	one = one[:cap(one)]
	for i := range one {
		one[i] = api.Node{Op: 9}
	}
	if !slices.Equal(two, want) || !slices.Equal(room, before) {
		t.Error("Take: shared memory")
	}
	clear(l)
	if !slices.Equal(two, want) {
		t.Error("Take: tokens are kept")
	}
	for range 3 {
		for _, s := range []string{"x=", "x=1 y", "%"} {
			_, err := cond.Parse(s)
			var p *api.PosError
			if !errors.As(err, &p) || p.Line != 1 {
				t.Fatalf("Parse(%q): %v", s, err)
			}
			p.Line, p.Err = 99, api.ErrName
		}
	}
}
