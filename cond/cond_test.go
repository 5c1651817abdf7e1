package cond_test

import (
	"slices"
	"strings"
	"testing"

	"weir/api"
	"weir/cond"
)

// 6.1: of all short lists of nodes just those are conditions that trees are written as.
func TestShortNodes(t *testing.T) {
	x := is(loc("x"), 1)
	for size := 1; size <= 3; size++ {
		shortNodes(t, size, []api.Node{x, yes()}, []int{api.CTrue, api.CIs, api.CNot, api.CAnd, api.COr}, []int{-1, 0, 1, 2, 3})
	}
	shortNodes(t, 4, []api.Node{yes()}, []int{api.CTrue, api.CNot, api.CAnd, api.COr}, []int{0, 1, 2})
}

// shortNodes goes through all lists of nodes whose A and B are among some numbers.
func shortNodes(t *testing.T, size int, leaves []api.Node, ops, numbers []int) {
	conds := map[[5]api.Node]bool{}
	for _, k := range trees(size, leaves) {
		conds[[5]api.Node(append(k.nodes(), make(api.Cond, 5-size)...))] = true
	}
	found := 0
	var l [5]api.Node
	var put func(i int)
	put = func(i int) {
		if i == size {
			want := api.ErrCond
			if conds[l] {
				want = api.OK
				found++
			}
			if got := cond.Check(l[:size]); got != want {
				t.Errorf("Check(%v): %d; want %d", l[:size], got, want)
			}
			return
		}
		for _, op := range ops {
			for _, a := range numbers {
				for _, b := range numbers {
					l[i] = api.Node{Op: op, A: a, B: b}
					if op == api.CIs {
						l[i].Ref, l[i].Value = loc("x"), 1
					}
					put(i + 1)
				}
			}
		}
	}
	put(0)
	if found != len(conds) {
		t.Errorf("%d nodes: %d conditions; want %d", size, found, len(conds))
	}
}

// 6.1: five nodes, of which and needs the right ones.
func TestFiveNodes(t *testing.T) {
	want := map[[4]int]bool{{0, 1, 2, 3}: true, {1, 2, 0, 3}: true}
	for a := range 6 {
		for b := range 6 {
			for x := range 6 {
				for y := range 6 {
					for at := 2; at <= 3; at++ {
						l := api.Cond{yes(), yes(), yes(), yes(), and(x, y)}
						l[at] = and(a, b)
						ok := at == 2 && a == 0 && b == 1 && x == 2 && y == 3 || at == 3 && want[[4]int{a, b, x, y}] && a == 1
						if got := cond.Check(l) == api.OK; got != ok {
							t.Errorf("Check(%v): %v", l, got)
						}
					}
				}
			}
		}
	}
}

// 6.1: fields that a node must not have, and those that it must.
func TestFields(t *testing.T) {
	bad := func(c ...api.Node) {
		t.Helper()
		if got := cond.Check(c); got != api.ErrCond {
			t.Errorf("Check(%v): %d", c, got)
		}
	}
	good := func(c ...api.Node) {
		t.Helper()
		if got := cond.Check(c); got != api.OK {
			t.Errorf("Check(%v): %d", c, got)
		}
	}
	bad()
	for _, op := range []int{-1, 0, 6, 7, 1 << 40, -1 << 63} {
		bad(api.Node{Op: op})
		bad(yes(), api.Node{Op: op})
		bad(yes(), yes(), api.Node{Op: op, A: 0, B: 1})
		bad(api.Node{Op: op, Ref: loc("x")})
		bad(api.Node{Op: op}, not(0))
	}
	for _, n := range []api.Node{{A: 1}, {A: -1}, {B: 1}, {B: -1}, {Value: 1}, {Value: -1}, {Ref: loc("")}, {Ref: reg(1, "")}, {Ref: reg(0, "x")}} {
		c, d, e := n, n, n
		c.Op, d.Op, e.Op = api.CTrue, api.CNot, api.COr
		d.A, e.B = d.A+0, e.B+1
		bad(c)
		bad(c, not(0))
		if n.A == 0 {
			bad(yes(), d)
		}
		bad(yes(), yes(), e)
		e.Op = api.CAnd
		bad(yes(), yes(), e)
	}
	for _, name := range []string{"", "1", "x ", " x", "-", "x-", "x=1", "é", "x\n", strings.Repeat("n", 65), "(", "[x]"} {
		bad(is(loc(name), 1))
		bad(is(reg(0, name), 1))
	}
	for _, thread := range []int{-2, -10000, 10000, 10001, 1 << 32, -1 << 63, 1<<63 - 1} {
		bad(is(reg(thread, "x"), 1))
	}
	for _, n := range []api.Node{{A: 1}, {A: -1}, {B: 1}, {B: -1}} {
		n.Op, n.Ref = api.CIs, loc("x")
		bad(n)
	}
	for _, thread := range []int{-1, 0, 1, 9998, 9999} {
		for _, name := range []string{"x", "true", "a-b+c", "_", "x.1", strings.Repeat("n", 64)} {
			for _, v := range []int64{0, 1, -1, -1 << 63, 1<<63 - 1} {
				good(is(reg(thread, name), v))
				good(is(reg(thread, name), v), yes(), or(0, 1))
			}
		}
	}
}

// 6.1: the bound of nodes, and what is longer than any bound.
func TestManyNodes(t *testing.T) {
	chain := func(n int) api.Cond {
		c := api.Cond{yes()}
		for len(c) < n {
			c = append(c, yes(), and(len(c)-1, len(c)))
		}
		return c
	}
	if got := cond.Check(chain(1023)); got != api.OK {
		t.Errorf("Check of 1023 nodes: %d", got)
	}
	if got := cond.Check(append(chain(1023), not(1022))); got != api.OK {
		t.Errorf("Check of 1024 nodes: %d", got)
	}
	for _, n := range []int{1025, 2049, 1<<20 + 1} {
		if got := cond.Check(chain(n)); got != api.ErrCond {
			t.Errorf("Check of %d nodes: %d", n, got)
		}
	}
	for _, n := range []int{65, 1024, 1025, 1 << 20} {
		want := api.ErrDepth
		if n > 1024 {
			want = api.ErrCond
		}
		nots := api.Cond{yes()}
		for len(nots) < n {
			nots = append(nots, not(len(nots)-1))
		}
		if n == 65 {
			want = api.OK
		}
		if got := cond.Check(nots); got != want {
			t.Errorf("Check of %d nots: %d; want %d", n-1, got, want)
		}
	}
	// What makes no condition is ErrCond, however deep it is.
	deep := api.Cond{yes()}
	for len(deep) < 100 {
		deep = append(deep, not(len(deep)-1))
	}
	if got := cond.Check(append(deep, yes())); got != api.ErrCond {
		t.Errorf("Check of deep nodes that make none: %d", got)
	}
}

// wrap puts a tree into a greater one, as its A or B.
func wrap(t *tree, how string) *tree {
	x := leaf(is(loc("x"), 1))
	switch how {
	case "~":
		return &tree{op: api.CNot, a: t}
	case "x and":
		return &tree{op: api.CAnd, a: x, b: t}
	case "x or":
		return &tree{op: api.COr, a: x, b: t}
	case "and x":
		return &tree{op: api.CAnd, a: t, b: x}
	}
	return &tree{op: api.COr, a: t, b: x}
}

// depth is how many ( and ~ of a text stand within one another at most, read byte by byte.
func depth(s string) int {
	open, most := "", 0
	for i := 0; i < len(s); i++ {
		switch c := s[i]; {
		case c == '(' || c == '~':
			open += string(c)
			most = max(most, len(open))
		case c == ')':
			open = strings.TrimRight(open, "~")
			open = strings.TrimRight(open[:len(open)-1], "~")
		case c == ' ':
			open = strings.TrimRight(open, "~")
		}
	}
	return most
}

// 6.1, 6.2: how deep a text may be, for every way in which it may become so.
func TestDepth(t *testing.T) {
	ways := []string{"~", "x and", "x or", "and x", "or x"}
	for _, top := range ways {
		for _, odd := range ways {
			for _, even := range ways {
				k := leaf(is(loc("x"), 1))
				for n := range 150 {
					checkDepth(t, wrap(k, top).nodes())
					k = wrap(k, []string{odd, even}[n%2])
				}
			}
		}
	}
	for _, all := range [][]string{{"~"}, {"x and"}, {"x or"}, {"and x", "or x"}, {"~", "and x"}} {
		k := leaf(is(loc("x"), 1))
		for n := 0; depth(written(k.nodes())) <= 64; n++ {
			k = wrap(k, all[n%len(all)])
		}
		for _, c := range []api.Cond{k.nodes(), wrap(k, "x and").nodes(), wrap(k, "or x").nodes()} {
			if err := cond.Check(c); err != api.ErrDepth {
				t.Errorf("Check, %v: %d", all, err)
			}
		}
	}
}

func checkDepth(t *testing.T, c api.Cond) {
	t.Helper()
	want := api.OK
	if depth(written(c)) > 64 {
		want = api.ErrDepth
	}
	if err := cond.Check(c); err != want {
		t.Errorf("Check of %s: %d; want %d", written(c), err, want)
	}
	if s, err := cond.Text(c); err != want || (s == "") != (want == api.ErrDepth) {
		t.Errorf("Text of %s: %q, %d; want %d", written(c), s, err, want)
	}
}

// written is a condition's text by the chapter's words alone, without a bound.
func written(c api.Cond) string {
	var text func(i int) string
	brackets := func(i int, around ...int) string {
		if slices.Contains(around, c[i].Op) {
			return "(" + text(i) + ")"
		}
		return text(i)
	}
	text = func(i int) string {
		switch n := c[i]; n.Op {
		case api.CNot:
			return "~" + brackets(n.A, api.CAnd, api.COr)
		case api.CAnd:
			return brackets(n.A, api.COr) + ` /\ ` + brackets(n.B, api.COr, api.CAnd)
		case api.COr:
			return brackets(n.A) + ` \/ ` + brackets(n.B, api.COr)
		}
		s, _ := cond.Text(api.Cond{c[i]})
		return s
	}
	return text(len(c) - 1)
}

// 6.2: the chapter's examples, and each kind of node.
func TestTexts(t *testing.T) {
	for _, x := range []struct {
		want string
		c    api.Cond
	}{
		{"true", api.Cond{yes()}},
		{"x=1", api.Cond{is(loc("x"), 1)}},
		{"true=0", api.Cond{is(loc("true"), 0)}},
		{"0:EAX=-1", api.Cond{is(reg(0, "EAX"), -1)}},
		{"9999:r=-9223372036854775808", api.Cond{is(reg(9999, "r"), -1<<63)}},
		{"10:r=9223372036854775807", api.Cond{is(reg(10, "r"), 1<<63-1)}},
		{"~true", api.Cond{yes(), not(0)}},
		{"~~x=1", api.Cond{is(loc("x"), 1), not(0), not(1)}},
		{`0:EAX=0 /\ 1:EBX=0`, api.Cond{is(reg(0, "EAX"), 0), is(reg(1, "EBX"), 0), and(0, 1)}},
		{`~(x=1 \/ y=16)`, api.Cond{is(loc("x"), 1), is(loc("y"), 16), or(0, 1), not(2)}},
		{`~(x=1 /\ y=16)`, api.Cond{is(loc("x"), 1), is(loc("y"), 16), and(0, 1), not(2)}},
		{`~x=1 \/ y=16`, api.Cond{is(loc("x"), 1), not(0), is(loc("y"), 16), or(1, 2)}},
		{`a=1 /\ (b=1 /\ c=1)`, api.Cond{is(loc("a"), 1), is(loc("b"), 1), is(loc("c"), 1), and(1, 2), and(0, 3)}},
		{`a=1 /\ b=1 /\ c=1`, api.Cond{is(loc("a"), 1), is(loc("b"), 1), and(0, 1), is(loc("c"), 1), and(2, 3)}},
		{`a=1 \/ (b=1 \/ c=1)`, api.Cond{is(loc("a"), 1), is(loc("b"), 1), is(loc("c"), 1), or(1, 2), or(0, 3)}},
		{`a=1 \/ b=1 \/ c=1`, api.Cond{is(loc("a"), 1), is(loc("b"), 1), or(0, 1), is(loc("c"), 1), or(2, 3)}},
		{`a=1 \/ b=1 /\ c=1`, api.Cond{is(loc("a"), 1), is(loc("b"), 1), is(loc("c"), 1), and(1, 2), or(0, 3)}},
		{`a=1 /\ b=1 \/ c=1`, api.Cond{is(loc("a"), 1), is(loc("b"), 1), and(0, 1), is(loc("c"), 1), or(2, 3)}},
		{`a=1 /\ (b=1 \/ c=1)`, api.Cond{is(loc("a"), 1), is(loc("b"), 1), is(loc("c"), 1), or(1, 2), and(0, 3)}},
		{`(a=1 \/ b=1) /\ c=1`, api.Cond{is(loc("a"), 1), is(loc("b"), 1), or(0, 1), is(loc("c"), 1), and(2, 3)}},
	} {
		if got, err := cond.Text(x.c); err != api.OK || got != x.want {
			t.Errorf("Text(%v): %q, %d; want %q", x.c, got, err, x.want)
		}
	}
}

// 6.2, 6.8: of all small conditions: the text is read as the condition, and would not be without one of its pairs of brackets.
func TestSmallTexts(t *testing.T) {
	for size := 1; size <= 7; size++ {
		for _, k := range trees(size, someLeaves()) {
			c := k.nodes()
			s, err := cond.Text(c)
			if err != api.OK || s != written(c) || strings.Contains(s, "( ") || strings.Contains(s, " )") {
				t.Fatalf("Text(%v): %q, %d", c, s, err)
			}
			if back, err := cond.Parse(s); err != nil || !slices.Equal(back, c) {
				t.Fatalf("Parse(%q): %v, %v; want %v", s, back, err, c)
			}
			for _, fewer := range unbracketed(s) {
				if back, err := cond.Parse(fewer); err == nil && slices.Equal(back, c) {
					t.Fatalf("Text(%v): %q; %q says the same", c, s, fewer)
				}
			}
		}
	}
}

// unbracketed is a text without one of its pairs of brackets, for each of them.
func unbracketed(s string) []string {
	var out []string
	var open []int
	for i := range len(s) {
		switch s[i] {
		case '(':
			open = append(open, i)
		case ')':
			at := open[len(open)-1]
			open = open[:len(open)-1]
			out = append(out, s[:at]+s[at+1:i]+s[i+1:])
		}
	}
	return out
}

// 6.8: of greater conditions, as far as they are not too deep.
func TestGreatTexts(t *testing.T) {
	roll := dice(6)
	for range 2000 {
		c := randomTree(roll, 1+int(roll()%40)).nodes()
		s, err := cond.Text(c)
		if err != api.OK {
			continue
		}
		if back, err := cond.Parse(s); err != nil || !slices.Equal(back, c) || s != written(c) {
			t.Errorf("Parse(%q): %v, %v; want %v", s, back, err, c)
		}
	}
}

// 6.1, 6.2, 6.5, 6.6: what Check refuses all calls refuse, with nothing beside it.
func TestRefused(t *testing.T) {
	deep := api.Cond{yes()}
	for len(deep) < 66 {
		deep = append(deep, not(len(deep)-1))
	}
	for want, all := range map[api.Errno][]api.Cond{
		api.ErrCond:  {nil, {}, {{Op: 9}}, {not(0)}, {yes(), yes()}, {is(loc("1"), 1)}, {yes(), yes(), and(1, 0)}, {yes(), and(0, 0)}, make(api.Cond, 2000)},
		api.ErrDepth: {deep},
	} {
		for _, c := range all {
			if err := cond.Check(c); err != want {
				t.Errorf("Check(%v): %d; want %d", c, err, want)
			}
			if s, err := cond.Text(c); s != "" || err != want {
				t.Errorf("Text(%v): %q, %d; want %d", c, s, err, want)
			}
			if l, err := cond.Refs(c); len(l) != 0 || err != want {
				t.Errorf("Refs(%v): %v, %d; want %d", c, l, err, want)
			}
			if ok, err := cond.Holds(c, func(api.Ref) int64 { t.Error("asked"); return 1 }); ok || err != want {
				t.Errorf("Holds(%v): %v, %d; want %d", c, ok, err, want)
			}
			if p, err := cond.Plain(c); len(p) != 0 || err != want {
				t.Errorf("Plain(%v): %v, %d; want %d", c, p, err, want)
			}
		}
	}
}

// 6.5: references are each told once, and rise.
func TestRefs(t *testing.T) {
	check := func(s string, want ...api.Ref) {
		t.Helper()
		c, err := cond.Parse(s)
		got, wrong := cond.Refs(c)
		if err != nil || wrong != api.OK || !slices.Equal(got, want) {
			t.Errorf("Refs of %q: %v, %d, %v; want %v", s, got, wrong, err, want)
		}
	}
	check(`y=1 /\ 1:EAX=0 /\ 0:ECX=1 /\ y=2`, reg(0, "ECX"), reg(1, "EAX"), loc("y"))
	check("true")
	check(`~(true \/ true)`)
	check(`x=1 \/ 0:x=1 \/ 10:x=1 \/ 9:x=1 \/ 9999:a=1 \/ a=1 \/ 0:x=2`, reg(0, "x"), reg(9, "x"), reg(10, "x"), reg(9999, "a"), loc("a"), loc("x"))
	check(`a1=1 /\ a=1 /\ a-1=1 /\ a.1=1 /\ A=1 /\ _=1 /\ a_=1 /\ aa=1 /\ a+1=1`, loc("A"), loc("_"), loc("a"), loc("a+1"), loc("a-1"), loc("a.1"), loc("a1"), loc("a_"), loc("aa"))
	check(`0:b=1 /\ 0:a=1 /\ ~1:a=1 \/ 0:ab=1`, reg(0, "a"), reg(0, "ab"), reg(0, "b"), reg(1, "a"))
	roll := dice(65)
	for range 2000 {
		c := randomTree(roll, 1+int(roll()%30)).nodes()
		got, err := cond.Refs(c)
		if err == api.OK {
			checkRefs(t, c, got)
		}
	}
}

// checkRefs holds references against the chapter's words: each pair in its order, all of the condition and no others.
func checkRefs(t *testing.T, c api.Cond, got []api.Ref) {
	t.Helper()
	for i := 1; i < len(got); i++ {
		a, b := got[i-1], got[i]
		rises := a.Thread >= 0 && b.Thread < 0
		if (a.Thread < 0) == (b.Thread < 0) {
			rises = a.Thread < b.Thread || a.Thread == b.Thread && a.Name < b.Name
		}
		if !rises {
			t.Errorf("Refs(%v): %v ahead of %v", c, a, b)
		}
	}
	asked := 0
	for _, n := range c {
		if n.Op == api.CIs && !slices.Contains(got, n.Ref) {
			t.Errorf("Refs(%v): no %v", c, n.Ref)
		}
	}
	for _, r := range got {
		if slices.ContainsFunc(c, func(n api.Node) bool { return n.Op == api.CIs && n.Ref == r }) {
			asked++
		}
	}
	if asked != len(got) {
		t.Errorf("Refs(%v): %v", c, got)
	}
}

// sets is of each node in which of some worlds it holds, world w being bit w.
func sets(c api.Cond, worlds int, value func(w int, r api.Ref) int64) []uint64 {
	out := make([]uint64, len(c))
	all := uint64(1)<<worlds - 1
	for i, n := range c {
		switch n.Op {
		case api.CTrue:
			out[i] = all
		case api.CIs:
			for w := range worlds {
				if value(w, n.Ref) == n.Value {
					out[i] |= 1 << w
				}
			}
		case api.CNot:
			out[i] = all &^ out[n.A]
		case api.CAnd:
			out[i] = out[n.A] & out[n.B]
		case api.COr:
			out[i] = out[n.A] | out[n.B]
		}
	}
	return out
}

// worldly is a value for each reference and world, which hangs on both.
func worldly(w int, r api.Ref) int64 {
	h := uint64(w)*31 + uint64(r.Thread+1)*7
	for _, c := range []byte(r.Name) {
		h = h*131 + uint64(c)
	}
	return int64(dice(h)()%3) - 1
}

// checkHolds holds Holds against the sets of worlds in which each node holds.
func checkHolds(t *testing.T, c api.Cond) {
	t.Helper()
	refs, _ := cond.Refs(c)
	want := sets(c, 20, worldly)
	for w := range 20 {
		ok, err := cond.Holds(c, func(r api.Ref) int64 {
			if !slices.Contains(refs, r) {
				t.Errorf("Holds(%v) asks for %v", c, r)
			}
			return worldly(w, r)
		})
		if err != api.OK || ok != (want[len(c)-1]>>w&1 == 1) {
			t.Errorf("Holds(%v) in world %d: %v, %d", c, w, ok, err)
		}
	}
}

// 6.5, 6.10: conditions hold where logic says.
func TestHolds(t *testing.T) {
	for size := 1; size <= 6; size++ {
		for _, k := range trees(size, someLeaves()) {
			checkHolds(t, k.nodes())
		}
	}
	roll := dice(610)
	for range 1500 {
		if c := randomTree(roll, 1+int(roll()%25)).nodes(); cond.Check(c) == api.OK {
			checkHolds(t, c)
		}
	}
	for _, v := range []int64{0, 1, -1, -1 << 63, 1<<63 - 1} {
		for _, is64 := range []int64{0, 1, -1, -1 << 63, 1<<63 - 1} {
			ok, err := cond.Holds(api.Cond{is(reg(3, "r"), is64)}, func(r api.Ref) int64 { return v })
			if err != api.OK || ok != (v == is64) {
				t.Errorf("Holds of %d, %d: %v, %d", is64, v, ok, err)
			}
		}
	}
	if ok, err := cond.Holds(api.Cond{yes()}, nil); !ok || err != api.OK {
		t.Errorf("Holds of true: %v, %d", ok, err)
	}
}

// 6.5: who is asked may ask again.
func TestHoldsWithin(t *testing.T) {
	c := api.Cond{is(loc("x"), 1), is(loc("y"), 2), and(0, 1)}
	ok, err := cond.Holds(c, func(r api.Ref) int64 {
		if within, err := cond.Holds(c[:1], func(api.Ref) int64 { return 1 }); !within || err != api.OK {
			t.Errorf("Holds within: %v, %d", within, err)
		}
		return map[string]int64{"x": 1, "y": 2}[r.Name]
	})
	if !ok || err != api.OK {
		t.Errorf("Holds: %v, %d", ok, err)
	}
}

// pushed is a tree in which one step at a time a not is taken inwards, until there is none.
func pushed(t *tree) *tree {
	switch {
	case t.op == api.CNot && t.a.op == api.CNot:
		return pushed(t.a.a)
	case t.op == api.CNot && t.a.op == api.CAnd:
		return pushed(&tree{op: api.COr, a: &tree{op: api.CNot, a: t.a.a}, b: &tree{op: api.CNot, a: t.a.b}})
	case t.op == api.CNot && t.a.op == api.COr:
		return pushed(&tree{op: api.CAnd, a: &tree{op: api.CNot, a: t.a.a}, b: &tree{op: api.CNot, a: t.a.b}})
	case t.op == api.CAnd, t.op == api.COr:
		return &tree{op: t.op, a: pushed(t.a), b: pushed(t.b)}
	}
	return t
}

// checkPlain holds Plain against the tree, and against what follows.
func checkPlain(t *testing.T, k *tree) {
	t.Helper()
	c := k.nodes()
	want := pushed(k).nodes()
	got, err := cond.Plain(c)
	wrong := cond.Check(want)
	if len(want) > 1024 {
		wrong = api.ErrLong
	}
	if wrong != api.OK {
		if err != wrong || len(got) != 0 {
			t.Errorf("Plain(%v): %v, %d; want %d", c, got, err, wrong)
		}
		return
	}
	if err != api.OK || !slices.Equal(got, want) {
		t.Errorf("Plain(%v): %v, %d; want %v", c, got, err, want)
		return
	}
	for _, n := range got {
		if n.Op == api.CNot && got[n.A].Op != api.CIs && got[n.A].Op != api.CTrue {
			t.Errorf("Plain(%v): %v", c, got)
		}
	}
	if again, err := cond.Plain(got); err != api.OK || !slices.Equal(again, got) {
		t.Errorf("Plain(%v): %v, %d", got, again, err)
	}
	if a, b := sets(c, 20, worldly), sets(got, 20, worldly); a[len(c)-1] != b[len(got)-1] {
		t.Errorf("Plain(%v): %v holds elsewhere", c, got)
	}
	a, _ := cond.Refs(c)
	if b, _ := cond.Refs(got); !slices.Equal(a, b) {
		t.Errorf("Plain(%v): asks for %v", c, b)
	}
}

// 6.6, 6.9: not is taken inwards.
func TestPlain(t *testing.T) {
	for s, want := range map[string]string{
		`~(a=1 /\ ~b=1)`:           `~a=1 \/ b=1`,
		`~~~a=1`:                   `~a=1`,
		`~(a=1 \/ b=1 /\ c=1)`:     `~a=1 /\ (~b=1 \/ ~c=1)`,
		`~true`:                    `~true`,
		`~~true`:                   `true`,
		`~(~true \/ x=1)`:          `true /\ ~x=1`,
		`a=1 /\ ~(b=1 \/ ~(c=1))`:  `a=1 /\ (~b=1 /\ c=1)`,
		`a=1 \/ (b=1 \/ ~~(c=1))`:  `a=1 \/ (b=1 \/ c=1)`,
		`~(a=1 /\ (b=1 /\ c=1))`:   `~a=1 \/ (~b=1 \/ ~c=1)`,
		`~(a=1 /\ b=1 /\ ~~~c=-1)`: `~a=1 \/ ~b=1 \/ c=-1`,
	} {
		c, err := cond.Parse(s)
		p, wrong := cond.Plain(c)
		got, _ := cond.Text(p)
		if err != nil || wrong != api.OK || got != want {
			t.Errorf("Plain of %q: %q, %d, %v; want %q", s, got, wrong, err, want)
		}
	}
	for size := 1; size <= 6; size++ {
		for _, k := range trees(size, someLeaves()) {
			checkPlain(t, k)
		}
	}
	roll := dice(66)
	for range 1500 {
		if k := randomTree(roll, 1+int(roll()%25)); cond.Check(k.nodes()) == api.OK {
			checkPlain(t, k)
		}
	}
}

// balanced is a tree of so many leaves that is not deep.
func balanced(leaves, op int) *tree {
	if leaves == 1 {
		return leaf(is(loc("x"), 1))
	}
	return &tree{op: op, a: balanced(leaves/2, op), b: balanced(leaves-leaves/2, op)}
}

// 6.6: what becomes too long, and what just not.
func TestPlainLong(t *testing.T) {
	for leaves, want := range map[int]api.Errno{341: api.OK, 342: api.ErrLong, 512: api.ErrLong} {
		k := &tree{op: api.CNot, a: balanced(leaves, api.CAnd)}
		if cond.Check(k.nodes()) != api.OK {
			t.Fatalf("%d leaves make no condition", leaves)
		}
		p, err := cond.Plain(k.nodes())
		if err != want || (len(p) == 0) == (err == api.OK) {
			t.Errorf("Plain of %d leaves: %d nodes, %d; want %d", leaves, len(p), err, want)
		}
		checkPlain(t, k)
	}
	// 341 leaves become 1022 nodes: with another leaf 1024, and with its not one more.
	b := &tree{op: api.CNot, a: balanced(341, api.COr)}
	k := &tree{op: api.COr, a: leaf(yes()), b: b}
	if p, err := cond.Plain(k.nodes()); err != api.OK || len(p) != 1024 {
		t.Errorf("Plain of 1024 nodes: %d, %d", len(p), err)
	}
	k = &tree{op: api.CAnd, a: &tree{op: api.CNot, a: leaf(yes())}, b: b}
	if p, err := cond.Plain(k.nodes()); err != api.ErrLong || len(p) != 0 {
		t.Errorf("Plain of 1025 nodes: %d, %d", len(p), err)
	}
}

// 6.6: what becomes too deep, though it was not; and, where both are so, too long.
func TestPlainDeep(t *testing.T) {
	x := func() *tree { return leaf(is(loc("x"), 1)) }
	nest := func(k *tree, n int) *tree {
		for range n {
			k = wrap(k, "x and")
		}
		return k
	}
	// x /\ ~(x \/ x /\ x), two deep, becomes x /\ (~x /\ (~x \/ ~x)), three deep.
	grows := func() *tree {
		return wrap(&tree{op: api.CNot, a: &tree{op: api.COr, a: x(), b: &tree{op: api.CAnd, a: x(), b: x()}}}, "x and")
	}
	for n, want := range map[int]api.Errno{60: api.OK, 61: api.OK, 62: api.ErrDepth} {
		k := nest(grows(), n)
		if err := cond.Check(k.nodes()); err != api.OK {
			t.Fatalf("%d: %d", n, err)
		}
		if p, err := cond.Plain(k.nodes()); err != want || (len(p) == 0) == (err == api.OK) {
			t.Errorf("Plain, %d: %v, %d; want %d", n, p, err, want)
		}
		checkPlain(t, k)
	}
	both := &tree{op: api.CAnd, a: &tree{op: api.CNot, a: balanced(400, api.CAnd)}, b: nest(grows(), 61)}
	if err := cond.Check(both.nodes()); err != api.OK {
		t.Fatalf("both: %d", err)
	}
	if p, err := cond.Plain(both.nodes()); err != api.ErrLong || len(p) != 0 {
		t.Errorf("Plain of both: %d, %d", len(p), err)
	}
}

// 6.7: what is handed in stays as it is, spare room too; what is handed out is its own.
func TestMemory(t *testing.T) {
	room := api.Cond{is(loc("y"), 1), is(reg(1, "EAX"), 0), and(0, 1), not(2), is(loc("x"), 7), is(loc("z"), 8)}
	before := slices.Clone(room)
	c := room[:4]
	cond.Check(c)
	cond.Text(c)
	cond.Holds(c, func(api.Ref) int64 { return 1 })
	for range 3 {
		refs, _ := cond.Refs(c)
		plain, _ := cond.Plain(c)
		if !slices.Equal(refs, []api.Ref{reg(1, "EAX"), loc("y")}) || len(plain) != 5 || !slices.Equal(room, before) {
			t.Fatalf("%v, %v, %v", refs, plain, room)
		}
		refs, plain = refs[:cap(refs)], plain[:cap(plain)]
		clear(refs)
		clear(plain)
	}
	same := room[4:5:5]
	plain, _ := cond.Plain(same)
	plain[0].Value = 99
	if !slices.Equal(room, before) {
		t.Errorf("Plain shares memory: %v", room)
	}
}
