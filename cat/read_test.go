package cat_test

import (
	"errors"
	"strings"
	"testing"

	"weir/api"
	"weir/cat"
	"weir/lexis"
)

func checkTerm(t *testing.T, s string, want ...api.Term) {
	t.Helper()
	m, err := cat.Parse("t empty " + s)
	if err != nil || !same(m, of(api.REmpty, "", want...)) {
		t.Errorf("Parse of %q: %v, %v; want %v", s, m, err, want)
	}
}

func checkWrong(t *testing.T, s string, line, col int, want api.Errno) {
	t.Helper()
	m, err := cat.Parse(s)
	if !zero(m) || !samePlace(err, &api.PosError{Line: line, Col: col, Err: want}) {
		t.Errorf("Parse(%.80q): %v, %v; want %d at %d:%d", s, m, err, want, line, col)
	}
}

func node(op int, parts ...int) api.Term {
	n := api.Term{Op: op}
	if len(parts) > 0 {
		n.A = parts[0]
	}
	if len(parts) > 1 {
		n.B = parts[1]
	}
	return n
}

// 20.4: the chapter's examples.
func TestParseExamples(t *testing.T) {
	want := of(api.RAcyclic, "sc", named("po"), named("rf"), node(api.XUnion, 0, 1), named("co"), node(api.XUnion, 2, 3), named("fr"), node(api.XUnion, 4, 5))
	want.Name = "SC"
	for _, s := range []string{"SC acyclic po | rf | co | fr as sc", "SC\nacyclic po|rf|co|fr as sc\n", "SC\n\n acyclic (* all *) po\n| rf\n| co\n| fr\n as\n sc"} {
		if m, err := cat.Parse(s); err != nil || !same(m, want) {
			t.Errorf("Parse(%q): %v, %v", s, m, err)
		}
	}
	checkTerm(t, "po & (W * W | R * M)", named("po"), named("W"), named("W"), node(api.XCross, 1, 2), named("R"), named("M"), node(api.XCross, 4, 5), node(api.XUnion, 3, 6), node(api.XMeet, 0, 7))
	m, err := cat.Parse("t acyclic po* as x")
	if err != nil || !same(m, of(api.RAcyclic, "x", named("po"), node(api.XStar, 0))) {
		t.Errorf("Parse of po* as x: %v, %v", m, err)
	}
	checkTerm(t, "po* ; rf", named("po"), node(api.XStar, 0), named("rf"), node(api.XSeq, 1, 2))
	checkWrong(t, "t let a = po let a = rf", 1, 14, api.ErrTwice)
	checkWrong(t, "t acyclic W", 1, 3, api.ErrSort)
	checkWrong(t, "t acyclic xx", 1, 3, api.ErrScope)
	checkWrong(t, "t acyclic po | ", 1, 16, api.ErrSyntax)
}

// 20.4: how tight operators bind, and which two of several are taken together first.
func TestBinding(t *testing.T) {
	signs := []string{"|", ";", `\`, "&"}
	for i, a := range signs {
		for k, b := range signs {
			one, two := binary()[i], binary()[k]
			s := "po" + a + "rf" + b + "co"
			if i < k {
				checkTerm(t, s, named("po"), named("rf"), named("co"), node(two, 1, 2), node(one, 0, 3))
			} else {
				checkTerm(t, s, named("po"), named("rf"), node(one, 0, 1), named("co"), node(two, 2, 3))
			}
			checkTerm(t, "po"+a+"(rf"+b+"co)", named("po"), named("rf"), named("co"), node(two, 1, 2), node(one, 0, 3))
			checkTerm(t, "(po"+a+"rf)"+b+"co", named("po"), named("rf"), node(one, 0, 1), named("co"), node(two, 2, 3))
		}
		checkTerm(t, "W*R"+a+"po", named("W"), named("R"), node(api.XCross, 0, 1), named("po"), node(binary()[i], 2, 3))
		checkTerm(t, "po"+a+"W*R", named("po"), named("W"), named("R"), node(api.XCross, 1, 2), node(binary()[i], 0, 3))
		checkTerm(t, "~po"+a+"~rf+", named("po"), node(api.XNot, 0), named("rf"), node(api.XPlus, 2), node(api.XNot, 3), node(binary()[i], 1, 4))
	}
	checkTerm(t, "~W*~R", named("W"), node(api.XNot, 0), named("R"), node(api.XNot, 2), node(api.XCross, 1, 3))
	checkTerm(t, "~po^-1?", named("po"), node(api.XInv, 0), node(api.XOpt, 1), node(api.XNot, 2))
	checkTerm(t, "(~po)^-1?", named("po"), node(api.XNot, 0), node(api.XInv, 1), node(api.XOpt, 2))
	checkTerm(t, "[~W]+", named("W"), node(api.XNot, 0), node(api.XOn, 1), node(api.XPlus, 2))
	checkTerm(t, "0 ; 0", node(api.XZero), node(api.XZero), node(api.XSeq, 0, 1))
}

// 20.4: a * is a post's, unless a name, a ( , a [ or a ~ stands right behind it.
func TestStars(t *testing.T) {
	star := []api.Term{named("po"), node(api.XStar, 0)}
	checkTerm(t, "po*", star...)
	checkTerm(t, "(po*)", star...)
	checkTerm(t, "po (* * *) *", star...)
	checkTerm(t, "po**", append(star, node(api.XStar, 1))...)
	checkTerm(t, "po*+", append(star, node(api.XPlus, 1))...)
	checkTerm(t, "W*R", named("W"), named("R"), node(api.XCross, 0, 1))
	checkTerm(t, "W * (* * *)\nR", named("W"), named("R"), node(api.XCross, 0, 1))
	checkTerm(t, "W*(R)", named("W"), named("R"), node(api.XCross, 0, 1))
	checkTerm(t, "W*~R", named("W"), named("R"), node(api.XNot, 1), node(api.XCross, 0, 2))
	for _, word := range []string{"let b = po", "empty po", "acyclic po", "irreflexive po"} {
		m, err := cat.Parse("t empty po* " + word)
		if err != nil || len(m.Rules) != 2 || len(m.Rules[0].Terms) != 2 {
			t.Errorf("Parse of po* %s: %v, %v", word, m, err)
		}
	}
	// Of these the * is the cross's, whose parts are no sets, or the post's, which a set has not.
	for _, s := range []string{"po*rf", "po**W", "W*", "W**R", "W*[R]", "[W]*[R]", "W*R*M", "W*(R*M)"} {
		checkWrong(t, "t empty "+s, 1, 3, api.ErrSort)
	}
	checkWrong(t, "t empty W*0", 1, 11, api.ErrSyntax)
	checkWrong(t, "t empty po*0", 1, 12, api.ErrSyntax)
	checkWrong(t, "t empty W*1", 1, 11, api.ErrSyntax)
	checkWrong(t, `t empty po*"a"`, 1, 12, api.ErrSyntax)
	checkWrong(t, "t let a = W * as", 1, 15, api.ErrSyntax)
}

// 20.4: what cannot stand where.
func TestParseWrong(t *testing.T) {
	checkWrong(t, "", 1, 1, api.ErrSyntax)
	checkWrong(t, "\n (* *)", 2, 7, api.ErrSyntax)
	for _, s := range []string{"let", "as", "acyclic po", "irreflexive po", "empty po", "0", "1", `"t"`, "(t)", "=", "~"} {
		checkWrong(t, s, 1, 1, api.ErrSyntax)
		if s != "acyclic po" && s != "irreflexive po" && s != "empty po" {
			checkWrong(t, "t empty po as "+s, 1, 15, api.ErrSyntax)
			checkWrong(t, "t let "+s+" = po", 1, 7, api.ErrSyntax)
		}
	}
	for _, s := range []string{"t", "po", "as", "=", "0", "(", `"let"`, "~", ","} {
		checkWrong(t, "t "+s, 1, 3, api.ErrSyntax)
		if s != "as" {
			checkWrong(t, "t empty po "+s, 1, 12, api.ErrSyntax)
		}
		if s != "=" {
			checkWrong(t, "t let a "+s, 1, 9, api.ErrSyntax)
		}
		checkWrong(t, "t empty po as x "+s, 1, 17, api.ErrSyntax)
	}
	for _, s := range []string{")", "]", "|", ";", `\`, "&", "*", "^-1", "+", "?", "=", "1", "-1", "00", "0x0", "-0", `"po"`, "let", "as", "empty", `/\`, `\/`, "{", "$", ":", ""} {
		checkWrong(t, "t empty "+s, 1, 9, api.ErrSyntax)
		checkWrong(t, "t let a = "+s, 1, 11, api.ErrSyntax)
		checkWrong(t, "t empty po | "+s, 1, 14, api.ErrSyntax)
		checkWrong(t, "t empty ( "+s, 1, 11, api.ErrSyntax)
		checkWrong(t, "t empty ["+s, 1, 10, api.ErrSyntax)
		checkWrong(t, "t empty ~"+s, 1, 10, api.ErrSyntax)
	}
	checkWrong(t, "t let a = po as x", 1, 14, api.ErrSyntax)
	checkWrong(t, "t empty (po as x)", 1, 13, api.ErrSyntax)
	checkWrong(t, `t empty po "as" x`, 1, 12, api.ErrSyntax)
	checkWrong(t, "t empty po as x as y", 1, 17, api.ErrSyntax)
	checkWrong(t, "t empty (po]", 1, 12, api.ErrSyntax)
	checkWrong(t, "t empty [W)", 1, 11, api.ErrSyntax)
	checkWrong(t, "t empty (po", 1, 12, api.ErrSyntax)
	checkWrong(t, "t empty [W\n", 2, 1, api.ErrSyntax)
	checkWrong(t, "t empty po)", 1, 11, api.ErrSyntax)
	checkWrong(t, "t empty (po))", 1, 13, api.ErrSyntax)
	checkWrong(t, "t empty (po empty", 1, 13, api.ErrSyntax)
	checkWrong(t, "t empty po rf", 1, 12, api.ErrSyntax)
	checkWrong(t, "t empty po ~rf", 1, 12, api.ErrSyntax)
	checkWrong(t, "t empty po\n\n empty po as", 3, 13, api.ErrSyntax)
	// What is wrong in the tokens comes ahead of what Check says, wherever it stands.
	checkWrong(t, "t acyclic W empty xx let po = po empty", 1, 39, api.ErrSyntax)
}

// 20.4: Check's errors stand at the rule's first token.
func TestParseChecked(t *testing.T) {
	checkWrong(t, "t\nempty po\n  let a = po | W", 3, 3, api.ErrSort)
	checkWrong(t, "t\nempty po as x (* *) acyclic po as x\tempty\nxx", 2, 37, api.ErrScope)
	checkWrong(t, "t let a = W let b = a acyclic b empty xx", 1, 23, api.ErrSort)
	checkWrong(t, "t let W = po", 1, 3, api.ErrTwice)
	checkWrong(t, "t empty po+rf", 1, 3, api.ErrScope)
	checkWrong(t, "t irreflexive ~_", 1, 3, api.ErrSort)
	for _, s := range []string{"po", "W", "a"} {
		if m, err := cat.Parse(s + " empty po as " + s); err != nil || m.Name != s || m.Rules[0].Name != s {
			t.Errorf("Parse of the names %q: %v, %v", s, m, err)
		}
	}
	if m, err := cat.Parse("t"); err != nil || !same(m, api.Model{Name: "t"}) {
		t.Errorf("Parse of a name alone: %v, %v", m, err)
	}
}

// 20.4: what lexis has to say comes first, wherever it stands.
func TestParseTokens(t *testing.T) {
	checkWrong(t, "t empty %", 1, 9, api.ErrToken)
	checkWrong(t, "let let\n !", 2, 2, api.ErrToken)
	checkWrong(t, ") (* ", 1, 3, api.ErrComment)
	checkWrong(t, "t empty po^-2", 1, 11, api.ErrToken)
	checkWrong(t, "t empty po - rf", 1, 12, api.ErrToken)
	checkWrong(t, "t empty W (*) R", 1, 11, api.ErrComment)
	checkWrong(t, "t empty 0b", 1, 9, api.ErrNumber)
	checkWrong(t, "empty 99999999999999999999", 1, 7, api.ErrBig)
	checkWrong(t, "t empty "+strings.Repeat("n", 65), 1, 9, api.ErrLong)
	for _, s := range []string{strings.Repeat(" ", api.MaxText+1), "t" + strings.Repeat(" ", api.MaxText), strings.Repeat("%", api.MaxText+1)} {
		if m, err := cat.Parse(s); !zero(m) || err != error(api.ErrLong) {
			t.Errorf("Parse of %d bytes: %v, %v", len(s), m, err)
		}
	}
	if m, err := cat.Parse("t empty po" + strings.Repeat("\n", api.MaxText-10)); err != nil || len(m.Rules) != 1 {
		t.Errorf("Parse of %d bytes: %v, %v", api.MaxText, m, err)
	}
	checkWrong(t, "t empty"+strings.Repeat("\n", api.MaxText-7), api.MaxText-6, 1, api.ErrSyntax)
}

// words is all texts of up to so many words behind others.
func words(ahead string, all []string, most int, test func(s string)) {
	test(ahead)
	if most == 0 {
		return
	}
	for _, w := range all {
		words(ahead+" "+w, all, most-1, test)
	}
}

// 20.4: all short texts of some words.
func TestShortTexts(t *testing.T) {
	check := func(s string) { checkRead(t, s) }
	words("", []string{"t", "let", "empty", "acyclic", "irreflexive", "as", "=", "po", "W", "0", "*", "("}, 4, check)
	words("t", []string{"let", "empty", "acyclic", "as", "=", "a", "po", "W"}, 6, check)
	words("t empty", []string{"po", "W", "0", "1", "(", ")", "[", "]", "~", "|", ";", `\`, "&", "*", "+", "^-1", "?", "as", "let", "empty"}, 4, check)
	words("t empty W", []string{"W", "0", "(", ")", "~", "[", "]", "*", "|"}, 5, check)
	words("t let a = po", []string{"a", "*", "(", ")", ";", "&", "as", "empty", "?"}, 5, check)
}

// 20.4: unruly texts.
func TestUnrulyTexts(t *testing.T) {
	roll := dice(204)
	odd := []string{"t", "let", "empty", "acyclic", "irreflexive", "as", "=", "po", "W", "xx", "0", "1", "00", "*", "(", ")", "[", "]", "~", "|", ";", `\`, "&", "+", "?", "^-1", `"let"`, `"0"`, "{", "$", "/\\", "\n"}
	good := []string{"po", "(rf", "W*R", "0", ")", "[W]", "~", "|", ";", `\`, "&", "*", "*", "+", "empty po", "let a = po", "let b = W", "a", "as x", "acyclic po |", "irreflexive", "[", "]", "(", "? ;", "^-1\n"}
	for range 60000 {
		s := "t empty"
		for range 1 + roll()%14 {
			if roll()%6 == 0 {
				s += " " + odd[roll()%uint64(len(odd))]
			} else {
				s += " " + good[roll()%uint64(len(good))]
			}
		}
		checkRead(t, s)
	}
}

// 20.4: texts of models in which a token is changed, left out or doubled.
func TestSpoiltTexts(t *testing.T) {
	roll := dice(2041)
	right := 0
	for range 20000 {
		s := modelText(randomModel(roll, 1+int(roll()%3), 4))
		l, err := lexis.All(s)
		if err != nil {
			t.Fatalf("All(%q): %v", s, err)
		}
		k := l[roll()%uint64(len(l))]
		other := l[roll()%uint64(len(l))]
		switch roll() % 3 {
		case 0:
			s = s[:k.At] + " " + s[k.End:]
		case 1:
			s = s[:k.At] + " " + other.Text + " " + s[k.End:]
		case 2:
			s = s[:k.End] + " " + other.Text + " " + s[k.End:]
		}
		checkRead(t, s)
		if _, err := cat.Parse(s); err == nil {
			right++
		}
	}
	if right < 1000 || right > 15000 {
		t.Errorf("%d of 20000 texts are models", right)
	}
}

// closed is the brackets that close what a row of ( , [ and ~ opens.
func closed(ahead string) string {
	var out string
	for _, c := range []byte(ahead) {
		switch c {
		case '(':
			out = ")" + out
		case '[':
			out = "]" + out
		}
	}
	return out
}

// 20.4: ( , [ and ~ just within, and just beyond, their bound.
func TestReadDepth(t *testing.T) {
	for _, s := range []string{"(", "[", "~"} {
		for _, other := range []string{"(", "[", "~"} {
			for k := range 65 {
				ahead := strings.Repeat(s, k) + strings.Repeat(other, 64-k)
				fits := "t\nempty " + ahead + "W" + closed(ahead)
				if strings.Count(ahead, "[") > 1 {
					checkWrong(t, fits, 2, 1, api.ErrSort)
				} else if _, err := cat.Parse(fits); err != nil {
					t.Errorf("Parse(%q): %v", fits, err)
				}
				for _, more := range []string{"(", "[", "~"} {
					checkWrong(t, "t empty\n"+ahead+more+"W", 2, 65, api.ErrDepth)
					checkWrong(t, "t let a = W |\n"+ahead+more+"xx", 2, 65, api.ErrDepth)
					checkWrong(t, fits+"\n"+more, 3, 1, api.ErrSyntax)
				}
			}
		}
	}
	// What is closed is closed: a ~ at the end of what it is ahead of.
	deep := "t empty\n" + strings.Repeat("(", 63)
	checkWrong(t, deep+"~po* | ~(rf", 2, 63+9, api.ErrDepth)
	checkWrong(t, deep+"~W * (R) * ~~W", 2, 63+13, api.ErrDepth)
	checkWrong(t, deep+"~[W", 2, 65, api.ErrDepth)
	checkWrong(t, deep+"[W] ; [(W", 2, 63+8, api.ErrDepth)
	long := deep + strings.Repeat("~po* ; [W] | (rf) & ~co+ \\ ", 20) + "po" + strings.Repeat(")", 63) + strings.Repeat(" empty ~po", 70)
	if _, err := cat.Parse(long); err != nil {
		t.Errorf("Parse of many parts 64 deep: %v", err)
	}
	checkRead(t, "t empty "+strings.Repeat("~(", 2000))
	checkRead(t, "t empty "+strings.Repeat("[", 100000))
	checkWrong(t, "t empty "+strings.Repeat("~", 300000), 1, 8+65, api.ErrDepth)
}

// 20.4: brackets that need not be are counted as they are read, though Text has none of them.
func TestNeedlessDepth(t *testing.T) {
	s := "t empty " + strings.Repeat("(", 64) + "po" + strings.Repeat(")", 64)
	if m, err := cat.Parse(s); err != nil || !same(m, of(api.REmpty, "", named("po"))) {
		t.Errorf("Parse of 64 brackets: %v, %v", m, err)
	}
	checkWrong(t, strings.Replace(s, "po", "(po)", 1), 1, 8+65, api.ErrDepth)
}

// 20.4: as many nodes as may be, and one more; the place is the last token of the first node too many.
func TestReadNodes(t *testing.T) {
	chain := func(n int) string { return strings.Repeat("po ; ", n) + "po" }
	m, err := cat.Parse("t empty " + chain(511) + "?")
	if err != nil || len(m.Rules[0].Terms) != 1024 {
		t.Errorf("Parse of 1024 nodes: %v", err)
	}
	m, err = cat.Parse("t let a = " + chain(255) + " empty ~W as x acyclic " + chain(255))
	if err != nil || len(m.Rules) != 3 || len(m.Rules[2].Terms) != 511 {
		t.Errorf("Parse of 1024 nodes in three rules: %v", err)
	}
	// Ahead of the second line 1023 nodes have been read.
	for _, ahead := range []string{"t empty " + chain(511), "t let a = " + chain(255) + " empty W acyclic " + chain(255)} {
		for _, x := range []struct {
			s   string
			col int
			e   api.Errno
		}{
			{"| po", 3, api.ErrLong},
			{"| (po)", 6, api.ErrLong},
			{"| ((po) )", 9, api.ErrLong},
			{"| ((po) rf", 9, api.ErrSyntax},
			{"| (po", 6, api.ErrSyntax},
			{"| ~po", 4, api.ErrLong},
			{"| ~(po)", 7, api.ErrLong},
			{"| ~(po", 7, api.ErrSyntax},
			{"| [W]", 5, api.ErrLong},
			{"| [W", 5, api.ErrSyntax},
			{"| po^-1", 5, api.ErrLong},
			{"| po*", 5, api.ErrLong},
			{"| po )", 3, api.ErrLong},
			{"| po rf", 3, api.ErrLong},
			{"| po ; )", 8, api.ErrSyntax},
			{"| po ; rf", 8, api.ErrLong},
			{"| po | )", 3, api.ErrLong},
			{"| W * R", 7, api.ErrLong},
			{"+ +", 3, api.ErrLong},
			{"+ | 0", 5, api.ErrLong},
			{"? )", 3, api.ErrSyntax},
			{"* empty 0", 9, api.ErrLong},
			{"as x empty W let a = (R)", 23, api.ErrLong},
			{"empty (W) empty as", 17, api.ErrSyntax},
			{"empty W)", 8, api.ErrSyntax},
			{"empty (W", 9, api.ErrSyntax},
			{"empty (W*", 9, api.ErrLong},
			{"empty (po*+", 10, api.ErrLong},
		} {
			checkWrong(t, ahead+"\n"+x.s, 2, x.col, x.e)
			checkRead(t, ahead+"\n"+x.s)
		}
	}
	checkRead(t, "t empty "+strings.Repeat("po ; rf | ", 700)+"co")
	checkRead(t, "t empty "+strings.Repeat("(po \\ ~rf) & ", 700)+"co")
	checkRead(t, "t"+strings.Repeat(" empty W", 1024))
	checkRead(t, "t"+strings.Repeat(" empty W", 1025))
	checkRead(t, "t empty po"+strings.Repeat("+", 1024))
	checkWrong(t, "t empty po"+strings.Repeat("+", 1000000), 1, 10+1024, api.ErrLong)
	// Too many nodes come ahead of what Check says of them.
	checkWrong(t, "t acyclic W empty xx let po = "+chain(600), 1, 31+5*511, api.ErrLong)
}

// 20.4: texts around the bound of nodes, of every shape.
func TestUnrulyLong(t *testing.T) {
	roll := dice(1024)
	for range 150 {
		m := randomModel(roll, 6, 280)
		s := loose(roll, m)
		l, err := lexis.All(s)
		if err != nil {
			t.Fatal(err)
		}
		switch k := l[len(l)-1-int(roll()%20)]; roll() % 3 {
		case 0:
			s = s[:k.At]
		case 1:
			s = s[:k.At] + "}" + s[k.End:]
		}
		checkRead(t, s)
	}
}

// loose is a model's text with brackets around parts that need not have them, and unruly blanks.
func loose(roll func() uint64, m api.Model) string {
	blank := func() string { return []string{" ", " ", "\n", "(* * let (* *) *)", "\t\r"}[roll()%5] }
	var text func(k *tree) string
	part := func(k *tree, must bool) string {
		s := text(k)
		for must || roll()%6 == 0 {
			s = "(" + blank() + s + blank() + ")"
			if must = false; roll()%3 != 0 {
				break
			}
		}
		return blank() + s + blank()
	}
	text = func(k *tree) string {
		looser := func(p *tree) bool { return tight(p.op) < tight(k.op) }
		switch {
		case k.op == api.XName:
			return k.name
		case k.op == api.XZero:
			return "0"
		case k.op == api.XOn:
			return "[" + part(k.a, false) + "]"
		case k.op == api.XNot:
			return "~" + part(k.a, looser(k.a))
		case k.b == nil:
			return part(k.a, looser(k.a)) + sign(k.op)
		}
		return part(k.a, looser(k.a)) + sign(k.op) + part(k.b, tight(k.b.op) <= tight(k.op))
	}
	s := blank() + m.Name
	for _, r := range m.Rules {
		s += blank() + []string{"let", "acyclic", "irreflexive", "empty"}[r.Kind-1]
		if r.Kind == api.RLet {
			s += blank() + r.Name + "="
		}
		k, _ := grown(r.Terms)
		s += part(k, false)
		if r.Kind != api.RLet && r.Name != "" {
			s += blank() + "as" + blank() + r.Name
		}
	}
	return s + blank()
}

// 20.8, 20.7: blanks, comments and brackets that need not be change nothing; what was read has nothing wrong, and is read of its text again.
func TestLooseTexts(t *testing.T) {
	roll := dice(208)
	for range 3000 {
		m := randomModel(roll, int(roll()%6), 6)
		s := loose(roll, m)
		got, err := cat.Parse(s)
		if err != nil || !same(got, m) {
			t.Errorf("Parse(%q): %v, %v; want %v", s, got, err, m)
			continue
		}
		if i, err := cat.Check(got); i != 0 || err != api.OK {
			t.Errorf("Check of Parse(%q): %d, %d", s, i, err)
		}
		text, _ := cat.Text(got)
		if again, err := cat.Parse(text); err != nil || !same(again, got) {
			t.Errorf("Parse(%q): %v, %v; want %v", text, again, err, got)
		}
	}
}

// 20.4: who changes an error that he was handed changes no other one.
func TestErrorsApart(t *testing.T) {
	for _, s := range []string{"t empty", "t empty W empty xx", "%", "t empty " + strings.Repeat("~", 99)} {
		_, first := cat.Parse(s)
		var p *api.PosError
		if !errors.As(first, &p) {
			t.Fatalf("Parse(%q): %v", s, first)
		}
		kept := *p
		p.Line, p.Err = 99, api.ErrName
		if _, err := cat.Parse(s); !samePlace(err, &kept) {
			t.Errorf("Parse(%q): %v", s, err)
		}
	}
}
