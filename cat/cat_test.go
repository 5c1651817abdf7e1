package cat_test

import (
	"slices"
	"strings"
	"testing"

	"weir/api"
	"weir/cat"
)

// 20.2: all names that are known from the start, and others.
func TestBuiltin(t *testing.T) {
	for s, want := range start() {
		if got, ok := cat.Builtin(s); got != want || !ok {
			t.Errorf("Builtin(%q): %d, %v; want %d", s, got, ok, want)
		}
	}
	for _, s := range []string{"", "let", "as", "acyclic", "irreflexive", "empty", "0", "PO", "w", "Po", "po ", " po", "po\n", "rfee", "f", "I", "IR", "X", "__", "a", "poloc", "com", "ppo", "é", strings.Repeat("po", 1<<20)} {
		if got, ok := cat.Builtin(s); got != 0 || ok {
			t.Errorf("Builtin(%.80q): %d, %v", s, got, ok)
		}
	}
}

// 20.1: a model's name, and names of rules.
func TestNames(t *testing.T) {
	bad := []string{"1", "0", "let", "as", "acyclic", "irreflexive", "empty", " ", "a b", "a-", "a+", "-a", "é", "a\n", "[a]", strings.Repeat("n", 65), strings.Repeat("n", 1<<20)}
	good := []string{"t", "po", "W", "_", "Let", "AS", "let.", "a-1", "x+y", "SB+mfence+po", strings.Repeat("n", 64)}
	for _, s := range append([]string{""}, bad...) {
		m := of(api.REmpty, "", named("po"))
		m.Name = s
		checkVerdict(t, m)
		if i, err := cat.Check(m); i != 0 || err != api.ErrName {
			t.Errorf("Check of a model %.80q: %d, %d", s, i, err)
		}
		if i, err := cat.Check(of(api.RLet, s, named("po"))); i != 0 || err != api.ErrName {
			t.Errorf("Check of let %.80q: %d, %d", s, i, err)
		}
	}
	for kind := api.RAcyclic; kind <= api.REmpty; kind++ {
		for _, s := range bad {
			if i, err := cat.Check(of(kind, s, named("po"))); i != 0 || err != api.ErrName {
				t.Errorf("Check of as %.80q: %d, %d", s, i, err)
			}
		}
		for _, s := range append([]string{""}, good...) {
			checkVerdict(t, of(kind, s, named("po")))
			if _, err := cat.Check(of(kind, s, named("po"))); err != api.OK {
				t.Errorf("Check of as %q: %d", s, err)
			}
		}
	}
	for _, s := range good {
		m := of(api.RLet, s, named("po"))
		m.Name = s
		checkVerdict(t, m)
		want := api.OK
		if _, ok := start()[s]; ok {
			want = api.ErrTwice
		}
		if _, err := cat.Check(m); err != want {
			t.Errorf("Check of let %q: %d", s, err)
		}
	}
}

// 20.1: names that are let are known from the next rule on, with their terms' sorts, and once.
func TestLets(t *testing.T) {
	rule := func(kind int, name string, l ...api.Term) api.Rule {
		return api.Rule{Kind: kind, Name: name, Terms: l}
	}
	for _, x := range []struct {
		at    int
		err   api.Errno
		rules []api.Rule
	}{
		{0, api.OK, nil},
		{0, api.OK, []api.Rule{rule(api.RLet, "a", named("po")), rule(api.RAcyclic, "", named("a"))}},
		{1, api.ErrSort, []api.Rule{rule(api.RLet, "a", named("W")), rule(api.RAcyclic, "", named("a"))}},
		{1, api.ErrSort, []api.Rule{rule(api.RLet, "a", named("W")), rule(api.RIrreflexive, "", named("a"))}},
		{0, api.OK, []api.Rule{rule(api.RLet, "a", named("W")), rule(api.REmpty, "", named("a"))}},
		{0, api.ErrScope, []api.Rule{rule(api.RLet, "a", named("a"))}},
		{0, api.ErrScope, []api.Rule{rule(api.REmpty, "", named("a")), rule(api.RLet, "a", named("po"))}},
		{1, api.ErrTwice, []api.Rule{rule(api.RLet, "a", named("po")), rule(api.RLet, "a", named("po"))}},
		{2, api.ErrTwice, []api.Rule{rule(api.RLet, "a", named("po")), rule(api.RLet, "b", named("a")), rule(api.RLet, "a", named("b"))}},
		{0, api.OK, []api.Rule{rule(api.REmpty, "a", named("po")), rule(api.RLet, "a", named("po")), rule(api.REmpty, "a", named("a"))}},
		{1, api.ErrScope, []api.Rule{rule(api.REmpty, "a", named("po")), rule(api.REmpty, "", named("a"))}},
		{2, api.ErrSort, []api.Rule{rule(api.RLet, "a", named("W")), rule(api.RLet, "b", named("a")), rule(api.REmpty, "", named("po"), named("b"), api.Term{Op: api.XSeq, B: 1})}},
		{0, api.OK, []api.Rule{rule(api.RLet, "a", named("W")), rule(api.RLet, "b", named("a")), rule(api.RAcyclic, "", named("a"), named("b"), api.Term{Op: api.XCross, B: 1})}},
	} {
		m := api.Model{Name: "t", Rules: x.rules}
		checkVerdict(t, m)
		if at, err := cat.Check(m); at != x.at || err != x.err {
			t.Errorf("Check(%v): %d, %d; want %d, %d", m, at, err, x.at, x.err)
		}
	}
}

// 20.1: where several things are wrong, the first one is told: rule by rule, and in a rule in the chapter's order.
func TestFirstError(t *testing.T) {
	long := make([]api.Term, 1025)
	wrong := []struct {
		err  api.Errno
		rule api.Rule
	}{
		{api.ErrModel, api.Rule{Kind: 9, Name: "as", Terms: []api.Term{named("xx")}}},
		{api.ErrModel, api.Rule{Kind: api.RLet, Name: "as", Terms: append(nots(named("xx"), 65), named("xx"))}},
		{api.ErrDepth, api.Rule{Kind: api.RLet, Name: "as", Terms: nots(named("xx"), 65)}},
		{api.ErrScope, api.Rule{Kind: api.RLet, Name: "as", Terms: []api.Term{named("xx"), {Op: api.XOn}}}},
		{api.ErrScope, api.Rule{Kind: api.RLet, Name: "as", Terms: []api.Term{named("xx"), named("po"), {Op: api.XOn, A: 1}, {Op: api.XUnion, B: 2}}}},
		{api.ErrSort, api.Rule{Kind: api.RLet, Name: "as", Terms: []api.Term{named("po"), {Op: api.XOn}, named("xx"), {Op: api.XUnion, A: 1, B: 2}}}},
		{api.ErrSort, api.Rule{Kind: api.RLet, Name: "po", Terms: []api.Term{named("po"), {Op: api.XOn}}}},
		{api.ErrName, api.Rule{Kind: api.RLet, Name: "as", Terms: []api.Term{named("W")}}},
		{api.ErrTwice, api.Rule{Kind: api.RLet, Name: "W", Terms: []api.Term{named("W")}}},
		{api.ErrName, api.Rule{Kind: api.RAcyclic, Name: "as", Terms: []api.Term{named("W")}}},
		{api.ErrSort, api.Rule{Kind: api.RAcyclic, Name: "W", Terms: []api.Term{named("W")}}},
	}
	for _, x := range wrong {
		for _, y := range wrong {
			m := api.Model{Name: "t", Rules: []api.Rule{{Kind: api.REmpty, Terms: []api.Term{named("W")}}, x.rule, y.rule}}
			checkVerdict(t, m)
			if at, err := cat.Check(m); at != 1 || err != x.err {
				t.Errorf("Check(%v): %d, %d; want 1, %d", m, at, err, x.err)
			}
			m.Rules = append(m.Rules, api.Rule{Terms: long})
			if at, err := cat.Check(m); at != 0 || err != api.ErrLong {
				t.Errorf("Check of too many nodes: %d, %d", at, err)
			}
			m.Name = "as"
			if at, err := cat.Check(m); at != 0 || err != api.ErrName {
				t.Errorf("Check of a model that is named as: %d, %d", at, err)
			}
		}
	}
}

// nots is a leaf and so many ~ ahead of it.
func nots(first api.Term, n int) []api.Term {
	l := []api.Term{first}
	for range n {
		l = append(l, api.Term{Op: api.XNot, A: len(l) - 1})
	}
	return l
}

// 20.1: fields that a node must not have, kinds and Ops that are none.
func TestFields(t *testing.T) {
	numbers := []int{-1 << 63, -2, -1, 0, 1, 2, 3, 1<<63 - 1}
	ops := []int{-1 << 63, -1, 0, 1, 2, 3, 4, 5, 6, 7, 8, 9, 10, 11, 12, 13, 14, 15, 1<<63 - 1}
	for _, kind := range ops {
		for _, name := range []string{"", "x"} {
			checkVerdict(t, of(kind, name, named("po")))
			checkVerdict(t, of(kind, name))
		}
	}
	for _, op := range ops {
		for _, a := range numbers {
			for _, b := range numbers {
				for _, name := range []string{"", "po", "W", "xx"} {
					n := api.Term{Op: op, A: a, B: b, Name: name}
					checkVerdict(t, of(api.REmpty, "", n))
					checkVerdict(t, of(api.REmpty, "", named("W"), n))
					checkVerdict(t, of(api.REmpty, "", named("po"), n))
					checkVerdict(t, of(api.REmpty, "", named("W"), named("R"), n))
					checkVerdict(t, of(api.REmpty, "", named("po"), named("rf"), n))
					checkVerdict(t, of(api.REmpty, "", named("po"), api.Term{Op: api.XInv}, n))
				}
			}
		}
	}
	checkVerdict(t, of(api.REmpty, ""))
	checkVerdict(t, of(api.RLet, "a"))
}

// 20.1: of all short lists of nodes just those are terms that trees are written as.
func TestShortNodes(t *testing.T) {
	found := 0
	l := make([]api.Term, 3)
	var put func(i, size int)
	put = func(i, size int) {
		if i == size {
			checkVerdict(t, of(api.REmpty, "", l[:size]...))
			if _, err := cat.Check(of(api.REmpty, "", l[:size]...)); err != api.ErrModel {
				found++
			}
			return
		}
		for _, n := range []api.Term{named("po"), named("W"), {Op: api.XUnion}, {Op: api.XCross}, {Op: api.XNot}, {Op: api.XStar}, {Op: api.XOn}} {
			for _, n.A = range []int{0, 1, 2} {
				for _, n.B = range []int{0, 1} {
					l[i] = n
					put(i+1, size)
				}
			}
		}
	}
	for size := 1; size <= 3; size++ {
		put(0, size)
	}
	// Two leaves; of each three with ~ , * or [ ; of these again, and pairs with | or * .
	if want := 2 + 6 + 18 + 8; found != want {
		t.Errorf("%d terms; want %d", found, want)
	}
}

// 20.1: as many nodes as may be in all rules, and more.
func TestManyNodes(t *testing.T) {
	chain := func(n int) []api.Term {
		l := []api.Term{named("po")}
		for len(l)+1 < n {
			l = append(l, named("rf"), api.Term{Op: api.XSeq, A: len(l) - 1, B: len(l)})
		}
		if len(l) < n {
			l = append(l, api.Term{Op: api.XOpt, A: len(l) - 1})
		}
		return l
	}
	for n, want := range map[int]api.Errno{1: api.OK, 1023: api.OK, 1024: api.OK, 1025: api.ErrLong, 1026: api.ErrLong, 1 << 20: api.ErrLong} {
		if at, err := cat.Check(of(api.RAcyclic, "", chain(n)...)); at != 0 || err != want {
			t.Errorf("Check of %d nodes: %d, %d; want %d", n, at, err, want)
		}
		if n < 2 {
			continue
		}
		m := of(api.RAcyclic, "x", chain(n/2)...)
		m.Rules = append(m.Rules, api.Rule{Kind: api.RLet, Name: "a", Terms: chain(n - n/2)})
		if at, err := cat.Check(m); at != 0 || err != want {
			t.Errorf("Check of %d nodes in two rules: %d, %d; want %d", n, at, err, want)
		}
		checkVerdict(t, m)
	}
	var m, none api.Model
	m.Name, none.Name = "t", "t"
	for range 1024 {
		m.Rules = append(m.Rules, api.Rule{Kind: api.REmpty, Terms: []api.Term{named("W")}})
	}
	none.Rules = make([]api.Rule, 1<<20)
	if at, err := cat.Check(m); at != 0 || err != api.OK {
		t.Errorf("Check of 1024 rules: %d, %d", at, err)
	}
	checkVerdict(t, m)
	m.Rules = append(m.Rules, m.Rules[0])
	if at, err := cat.Check(m); at != 0 || err != api.ErrLong {
		t.Errorf("Check of 1025 rules: %d, %d", at, err)
	}
	if at, err := cat.Check(none); at != 0 || err != api.ErrModel {
		t.Errorf("Check of rules without nodes: %d, %d", at, err)
	}
}

// 20.1, 20.3, 20.7: all small terms, well sorted or not: errors, sorts and texts are as the chapter has them; a text is read as the term, and would not be without one of its pairs of brackets.
func TestSmallTerms(t *testing.T) {
	for size := 1; size <= 5; size++ {
		for _, k := range trees(size, "po", "W", "0") {
			m := of(api.REmpty, "", k.nodes()...)
			checkVerdict(t, m)
			s, err := cat.Text(m)
			if err != api.OK {
				continue
			}
			if back, err := cat.Parse(s); err != nil || !same(back, m) {
				t.Fatalf("Parse(%q): %v, %v; want %v", s, back, err, m)
			}
			for _, fewer := range unbracketed(s) {
				if back, err := cat.Parse(fewer); err == nil && same(back, m) {
					t.Fatalf("Text(%v): %q; %q says the same", m, s, fewer)
				}
			}
		}
	}
}

// unbracketed is a text without one of its pairs of round brackets, for each of them.
func unbracketed(s string) []string {
	var out []string
	var open []int
	for i := range len(s) {
		switch s[i] {
		case '(':
			open = append(open, i)
		case ')':
			at := open[len(open)-1]
			open = open[:len(open)-1]
			out = append(out, s[:at]+s[at+1:i]+s[i+1:])
		}
	}
	return out
}

// 20.3: the chapter's examples.
func TestTextExamples(t *testing.T) {
	m, err := cat.Parse("SC acyclic po | rf\n| co | fr as sc")
	if s, wrong := cat.Text(m); err != nil || wrong != api.OK || s != "SC\nacyclic po | rf | co | fr as sc\n" {
		t.Errorf("Text of SC: %q, %d, %v", s, wrong, err)
	}
	for s, want := range map[string]string{
		"(po ; rf) ; co": "po ; rf ; co", "po ; (rf ; co)": "po ; (rf ; co)", "~(po*)": "~po*", "(~po)*": "(~po)*",
	} {
		m, err := cat.Parse("t empty " + s)
		if got, wrong := cat.Text(m); err != nil || wrong != api.OK || got != "t\nempty "+want+"\n" {
			t.Errorf("Text of %q: %q, %d, %v; want %q", s, got, wrong, err, want)
		}
	}
}

// 20.3, 20.7: models as one writes them, which are their own texts.
func TestWholeTexts(t *testing.T) {
	for _, s := range []string{
		"t\n",
		"SC\nacyclic po & loc | rf | co | fr as uniproc\nempty rmw & (fr ; co) as atomic\nacyclic po | rf | co | fr as sc\n",
		"TSO\nlet com = rf | co | fr\nacyclic po & loc | com as uniproc\nempty rmw & (fr ; co) as atomic\nlet ppo = po & (M * M \\ W * R)\nlet fence = po ; [F] ; po\nlet implied = po & M * M & (L * _ | _ * L)\nacyclic ppo | fence | implied | rfe | co | fr as tso\n",
		"t\nlet a = W\nlet b = a | R\nirreflexive b * ~a & id\nempty b as b\nacyclic [b \\ a]^-1+*? as po\n",
		"t\nempty 0\nempty ~0\nempty 0^-1\nempty ~(0 | 0) ; 0* as x\nempty po*\nempty po** \\ (po \\ (po \\ po))\n",
	} {
		m, err := cat.Parse(s)
		got, wrong := cat.Text(m)
		if err != nil || wrong != api.OK || got != s {
			t.Errorf("Text of %q: %q, %d, %v", s, got, wrong, err)
		}
	}
}

// 20.3, 20.7: greater models: their sorts, their texts, and what is read of these.
func TestGreatModels(t *testing.T) {
	roll := dice(20)
	read := 0
	for range 3000 {
		m := randomModel(roll, int(roll()%7), 12)
		checkVerdict(t, m)
		s, err := cat.Text(m)
		if err != api.OK {
			continue
		}
		read++
		if back, err := cat.Parse(s); err != nil || !same(back, m) {
			t.Errorf("Parse(%q): %v, %v; want %v", s, back, err, m)
		}
	}
	if read < 2500 {
		t.Errorf("%d models have a text", read)
	}
}

// 20.1: models in which one thing is changed.
func TestSpoiltModels(t *testing.T) {
	roll := dice(201)
	names := []string{"", "po", "W", "a", "b.", "xx", "let", "1"}
	seen := map[api.Errno]int{}
	for range 20000 {
		m := randomModel(roll, 1+int(roll()%4), 5)
		r := &m.Rules[roll()%uint64(len(m.Rules))]
		n := &r.Terms[roll()%uint64(len(r.Terms))]
		switch roll() % 8 {
		case 0:
			n.Op = int(roll() % 15)
		case 1:
			n.A += int(roll()%3) - 1
		case 2:
			n.B += int(roll()%3) - 1
		case 3:
			n.Name = names[roll()%8]
		case 4:
			r.Kind = int(roll() % 6)
		case 5:
			r.Name = names[roll()%8]
		case 6:
			r.Terms = r.Terms[:roll()%uint64(len(r.Terms))]
		case 7:
			m.Name = names[roll()%8]
		}
		checkVerdict(t, m)
		_, err := cat.Check(m)
		seen[err]++
	}
	for _, err := range []api.Errno{api.OK, api.ErrName, api.ErrModel, api.ErrScope, api.ErrSort, api.ErrTwice} {
		if seen[err] < 50 {
			t.Errorf("%d models have the error %d", seen[err], err)
		}
	}
}

// 20.1: how deep a text may be, for every way in which it may become so, the ill-sorted ones too.
func TestDepth(t *testing.T) {
	type way func(k *tree) *tree
	var ways []way
	for _, op := range unary() {
		ways = append(ways, func(k *tree) *tree { return &tree{op: op, a: k} })
	}
	for _, op := range binary() {
		ways = append(ways,
			func(k *tree) *tree { return &tree{op: op, a: k, b: leaf("po")} },
			func(k *tree) *tree { return &tree{op: op, a: leaf("po"), b: k} })
	}
	edge := 0
	for _, odd := range ways {
		for _, even := range ways {
			for _, name := range []string{"po", "W"} {
				k := leaf(name)
				for n := range 140 {
					if d := depth(k.text()); 63 <= d && d <= 66 || n%40 == 0 {
						checkVerdict(t, of(api.REmpty, "", k.nodes()...))
						edge++
					}
					k = []way{odd, even}[n%2](k)
				}
			}
		}
	}
	if edge < 1000 {
		t.Errorf("%d terms at the bound", edge)
	}
	on := func(n int) []api.Term {
		l := []api.Term{named("W")}
		for range n {
			l = append(l, api.Term{Op: api.XOn, A: len(l) - 1})
		}
		return l
	}
	for want, l := range map[api.Errno][]api.Term{api.OK: nots(named("W"), 64), api.ErrDepth: nots(named("W"), 65), api.ErrSort: on(64)} {
		if _, err := cat.Check(of(api.REmpty, "", l...)); err != want {
			t.Errorf("Check of %d nodes: %d; want %d", len(l), err, want)
		}
	}
	if _, err := cat.Check(of(api.REmpty, "", on(65)...)); err != api.ErrDepth {
		t.Errorf("Check of 65 [ within one another: %d", err)
	}
}

// 20.3, 20.7: the longest texts: names of 64 bytes wherever they may stand.
func TestLongTexts(t *testing.T) {
	long := strings.Repeat("n", 64)
	m := api.Model{Name: long, Rules: []api.Rule{{Kind: api.RLet, Name: long, Terms: []api.Term{named("po")}}}}
	for range 1023 {
		m.Rules = append(m.Rules, api.Rule{Kind: api.RIrreflexive, Name: long, Terms: []api.Term{named(long)}})
	}
	s, err := cat.Text(m)
	if err != api.OK || s != modelText(m) {
		t.Fatalf("Text: %d bytes, %d", len(s), err)
	}
	if back, err := cat.Parse(s); err != nil || !same(back, m) {
		t.Errorf("Parse of %d bytes: %v", len(s), err)
	}
}

// 20.6: what is handed in stays as it is, spare room too; what is handed out is its own.
func TestMemory(t *testing.T) {
	m, err := cat.Parse("t let a = po | rf let b = [W] ; a acyclic b as x empty b & a")
	if err != nil {
		t.Fatal(err)
	}
	want := "t\nacyclic [W] ; (po | rf) as x\nempty ([W] ; (po | rf)) & (po | rf)\n"
	text, _ := cat.Text(m)
	room := api.Model{Name: m.Name, Rules: append(slices.Clone(m.Rules), api.Rule{Kind: 7})[:len(m.Rules)]}
	for i := range room.Rules {
		room.Rules[i].Terms = append(slices.Clone(m.Rules[i].Terms), api.Term{Op: 99})[:len(m.Rules[i].Terms)]
	}
	for range 3 {
		cat.Check(room)
		sorts, _ := cat.Sorts(room)
		lean, _ := cat.Inline(room)
		if s, err := cat.Text(lean); s != want || err != api.OK {
			t.Fatalf("Inline: %q, %d", s, err)
		}
		checkSorts(t, room, sorts)
		spoilSorts(sorts)
		spoil(lean)
		if s, err := cat.Text(room); s != text || err != api.OK || !same(room, m) {
			t.Fatalf("Text: %q, %d", s, err)
		}
		for i := range room.Rules {
			if l := room.Rules[i].Terms; l[:len(l)+1][len(l)].Op != 99 {
				t.Errorf("rule %d: spare room is changed", i)
			}
		}
		if l := room.Rules; l[:len(l)+1][len(l)].Kind != 7 {
			t.Error("spare room is changed")
		}
	}
}

// 20.6: no two lists of an answer share memory, nor do two answers.
func TestApart(t *testing.T) {
	s := "t let a = po | rf acyclic a as x empty a irreflexive po acyclic a ; a"
	one, _ := cat.Parse(s)
	two, _ := cat.Parse(s)
	for _, m := range []api.Model{one, inlined(t, two)} {
		for i := range m.Rules {
			others := api.Model{Name: "t", Rules: slices.Delete(slices.Clone(m.Rules), i, i+1)}
			before := modelText(others)
			list := m.Rules[i].Terms[:cap(m.Rules[i].Terms)]
			kept := slices.Clone(list)
			for k := range list {
				list[k] = named("spoilt")
			}
			if after := modelText(others); after != before {
				t.Errorf("rule %d shares memory: %q, %q", i, before, after)
			}
			copy(list, kept)
		}
	}
	spoil(one)
	if got, _ := cat.Text(two); got != "t\nlet a = po | rf\nacyclic a as x\nempty a\nirreflexive po\nacyclic a ; a\n" {
		t.Errorf("two answers share memory: %q", got)
	}
	sorts, _ := cat.Sorts(two)
	for i, l := range sorts {
		for k := range l[:cap(l)] {
			l[:cap(l)][k] = 90 + i
		}
	}
	for i, l := range sorts {
		if slices.ContainsFunc(l, func(n int) bool { return n != 90+i }) {
			t.Errorf("sorts of the rule %d share memory: %v", i, sorts)
		}
	}
}

func inlined(t *testing.T, m api.Model) api.Model {
	t.Helper()
	out, err := cat.Inline(m)
	if err != api.OK {
		t.Fatalf("Inline: %d", err)
	}
	return out
}

// spoil overwrites all that an answer has, spare room too.
func spoil(m api.Model) {
	for _, r := range m.Rules {
		l := r.Terms[:cap(r.Terms)]
		for i := range l {
			l[i] = api.Term{Op: 99, A: -1, B: -1, Name: "spoilt"}
		}
	}
	l := m.Rules[:cap(m.Rules)]
	for i := range l {
		l[i] = api.Rule{Kind: 99}
	}
}

func spoilSorts(all [][]int) {
	for _, l := range all {
		l = l[:cap(l)]
		for i := range l {
			l[i] = 99
		}
	}
	clear(all[:cap(all)])
}
