package cat_test

import (
	"errors"
	"slices"
	"strings"
	"testing"

	"weir/api"
	"weir/cat"
	"weir/lexis"
)

// dice is a row of words that look unruly and are the same at every run.
func dice(seed uint64) func() uint64 {
	return func() uint64 {
		seed += 0x9e3779b97f4a7c15
		z := (seed ^ seed>>30) * 0xbf58476d1ce4e5b9
		z = (z ^ z>>27) * 0x94d049bb133111eb
		return z ^ z>>31
	}
}

// tree is a term as its words say it: what a node is made of hangs on it.
type tree struct {
	op   int
	name string
	a, b *tree
}

func leaf(name string) *tree {
	if name == "0" {
		return &tree{op: api.XZero}
	}
	return &tree{op: api.XName, name: name}
}

func unary() []int { return []int{api.XNot, api.XInv, api.XPlus, api.XStar, api.XOpt, api.XOn} }

// binary is the operators with two parts, from the loosest on.
func binary() []int { return []int{api.XUnion, api.XSeq, api.XMinus, api.XMeet, api.XCross} }

// nodes is a tree's nodes, each one's A, then its B, then itself.
func (t *tree) nodes() []api.Term {
	var out []api.Term
	var put func(t *tree) int
	put = func(t *tree) int {
		n := api.Term{Op: t.op, Name: t.name}
		if t.a != nil {
			n.A = put(t.a)
		}
		if t.b != nil {
			n.B = put(t.b)
		}
		out = append(out, n)
		return len(out) - 1
	}
	put(t)
	return out
}

// grown is the tree of nodes, if they stand as the nodes of a tree do: it is made from the last one on, as if they might stand anyhow, and its nodes must be these.
func grown(l []api.Term) (*tree, bool) {
	left := len(l)
	var grow func(i, below int) *tree
	grow = func(i, below int) *tree {
		if left--; left < 0 || i < 0 || i >= below {
			return nil
		}
		n := l[i]
		t := &tree{op: n.Op, name: n.Name}
		if slices.Contains(unary(), n.Op) || slices.Contains(binary(), n.Op) {
			if t.a = grow(n.A, i); t.a == nil {
				return nil
			}
		}
		if slices.Contains(binary(), n.Op) {
			if t.b = grow(n.B, i); t.b == nil {
				return nil
			}
		}
		return t
	}
	t := grow(len(l)-1, len(l))
	return t, t != nil && slices.Equal(t.nodes(), l)
}

// tight is how tight a node binds, by the chapter's row of operators.
func tight(op int) int {
	switch op {
	case api.XUnion, api.XSeq, api.XMinus, api.XMeet, api.XCross:
		return slices.Index(binary(), op)
	case api.XNot:
		return 5
	case api.XInv, api.XPlus, api.XStar, api.XOpt:
		return 6
	}
	return 7
}

// sign is how an operator is written.
func sign(op int) string {
	return [...]string{api.XUnion: "|", api.XSeq: ";", api.XMinus: `\`, api.XMeet: "&", api.XCross: "*", api.XInv: "^-1", api.XPlus: "+", api.XStar: "*", api.XOpt: "?", api.XOn: ""}[op]
}

// text is a tree's text by the chapter's words alone, without a bound.
func (t *tree) text() string {
	var out strings.Builder
	t.write(&out)
	return out.String()
}

func (t *tree) write(out *strings.Builder) {
	around := func(part *tree, alike bool) {
		if tight(part.op) < tight(t.op) || alike && tight(part.op) == tight(t.op) {
			out.WriteString("(")
			defer out.WriteString(")")
		}
		part.write(out)
	}
	switch {
	case t.op == api.XName:
		out.WriteString(t.name)
	case t.op == api.XZero:
		out.WriteString("0")
	case t.op == api.XOn:
		out.WriteString("[")
		t.a.write(out)
		out.WriteString("]")
	case t.op == api.XNot:
		out.WriteString("~")
		around(t.a, false)
	case t.b == nil:
		around(t.a, false)
		out.WriteString(sign(t.op))
	default:
		around(t.a, false)
		out.WriteString(" " + sign(t.op) + " ")
		around(t.b, true)
	}
}

// depth is how many ( , [ and ~ of a term's text stand within one another at most, read byte by byte.
func depth(s string) int {
	open, most := "", 0
	for _, c := range []byte(s) {
		switch c {
		case '(', '[', '~':
			open += string(c)
			most = max(most, len(open))
		case ')', ']':
			open = strings.TrimRight(open, "~")
			open = open[:len(open)-1]
		case ' ':
			open = strings.TrimRight(open, "~")
		}
	}
	return most
}

// sorts is the sorts of a tree's nodes, in their order, names having those of a table; 0: none.
func (t *tree) sorts(names map[string]int) []int {
	var out []int
	var walk func(t *tree) int
	walk = func(t *tree) int {
		a, b := 0, 0
		if t.a != nil {
			a = walk(t.a)
		}
		if t.b != nil {
			b = walk(t.b)
		}
		out = append(out, t.sort(a, b, names))
		return out[len(out)-1]
	}
	walk(t)
	return out
}

// sort is a node's sort, its parts having the sorts a and b.
func (t *tree) sort(a, b int, names map[string]int) int {
	switch t.op {
	case api.XName:
		return names[t.name]
	case api.XZero:
		return api.SRel
	case api.XUnion, api.XMeet, api.XMinus:
		if a == b {
			return a
		}
	case api.XNot:
		return a
	case api.XSeq:
		if a == api.SRel && b == api.SRel {
			return api.SRel
		}
	case api.XInv, api.XPlus, api.XStar, api.XOpt:
		if a == api.SRel {
			return api.SRel
		}
	case api.XCross:
		if a == api.SSet && b == api.SSet {
			return api.SRel
		}
	case api.XOn:
		if a == api.SSet {
			return api.SRel
		}
	}
	return 0
}

// whole is the last one of some sorts, which is the term's.
func whole(sorts []int) int { return sorts[len(sorts)-1] }

const (
	relations = "po loc int ext rmw rf rfe rfi co coe coi fr fre fri id"
	sets      = "W IW R M F L _"
)

// start is the names that are known from the start.
func start() map[string]int {
	all := map[string]int{}
	for _, s := range strings.Fields(relations) {
		all[s] = api.SRel
	}
	for _, s := range strings.Fields(sets) {
		all[s] = api.SSet
	}
	return all
}

func isWord(s string) bool {
	return slices.Contains([]string{"let", "as", "acyclic", "irreflexive", "empty"}, s)
}

func isName(s string) bool { return lexis.Name(s) && !isWord(s) }

// verdict is what Check must answer, by the chapter's words.
func verdict(m api.Model) (int, api.Errno) {
	if !isName(m.Name) {
		return 0, api.ErrName
	}
	nodes := 0
	for _, r := range m.Rules {
		nodes += len(r.Terms)
	}
	if nodes > 1024 {
		return 0, api.ErrLong
	}
	names := start()
	for i, r := range m.Rules {
		if err := ruleVerdict(r, names); err != api.OK {
			return i, err
		}
		if r.Kind == api.RLet {
			t, _ := grown(r.Terms)
			names[r.Name] = whole(t.sorts(names))
		}
	}
	return 0, api.OK
}

func ruleVerdict(r api.Rule, names map[string]int) api.Errno {
	t, ok := grown(r.Terms)
	if r.Kind < 1 || r.Kind > 4 || !ok {
		return api.ErrModel
	}
	for _, n := range r.Terms {
		leafy := n.Op == api.XName || n.Op == api.XZero
		if n.Op < 1 || n.Op > 13 || leafy && n.A != 0 || (leafy || slices.Contains(unary(), n.Op)) && n.B != 0 || n.Op != api.XName && n.Name != "" {
			return api.ErrModel
		}
	}
	if depth(t.text()) > 64 {
		return api.ErrDepth
	}
	sorts := t.sorts(names)
	if i := slices.Index(sorts, 0); i >= 0 {
		if r.Terms[i].Op == api.XName {
			return api.ErrScope
		}
		return api.ErrSort
	}
	switch {
	case (r.Kind == api.RLet || r.Name != "") && !isName(r.Name):
		return api.ErrName
	case r.Kind == api.RLet && names[r.Name] != 0:
		return api.ErrTwice
	case (r.Kind == api.RAcyclic || r.Kind == api.RIrreflexive) && whole(sorts) == api.SSet:
		return api.ErrSort
	}
	return api.OK
}

// trees is all trees of so many nodes, made of some leaves.
func trees(size int, leaves ...string) []*tree {
	all := make([][]*tree, size+1)
	for _, s := range leaves {
		all[1] = append(all[1], leaf(s))
	}
	for n := 2; n <= size; n++ {
		for _, op := range unary() {
			for _, a := range all[n-1] {
				all[n] = append(all[n], &tree{op: op, a: a})
			}
		}
		for _, op := range binary() {
			for k := 1; k < n-1; k++ {
				for _, a := range all[k] {
					for _, b := range all[n-1-k] {
						all[n] = append(all[n], &tree{op: op, a: a, b: b})
					}
				}
			}
		}
	}
	return all[size]
}

// randomTree is a tree of a sort, with some leaves; often they are names that are let.
func randomTree(roll func() uint64, sort, leaves int, lets map[string]int) *tree {
	pick := func(l ...int) int { return l[roll()%uint64(len(l))] }
	if sort == api.SRel && leaves == 1 && roll()%6 == 0 {
		return &tree{op: api.XOn, a: randomTree(roll, api.SSet, 1, lets)}
	}
	var t *tree
	switch {
	case leaves == 1:
		t = leaf(randomName(roll, sort, lets))
	default:
		op := pick(api.XUnion, api.XMeet, api.XMinus)
		inner := sort
		if sort == api.SRel {
			op = pick(api.XUnion, api.XMeet, api.XMinus, api.XSeq, api.XSeq, api.XCross)
		}
		if op == api.XCross {
			inner = api.SSet
		}
		k := 1 + int(roll()%uint64(leaves-1))
		t = &tree{op: op, a: randomTree(roll, inner, k, lets), b: randomTree(roll, inner, leaves-k, lets)}
	}
	for roll()%4 == 0 {
		op := api.XNot
		if sort == api.SRel {
			op = pick(api.XNot, api.XInv, api.XPlus, api.XStar, api.XOpt)
		}
		t = &tree{op: op, a: t}
	}
	return t
}

// randomName is a name of a sort; of a relation it may be 0, too.
func randomName(roll func() uint64, sort int, lets map[string]int) string {
	var l []string
	for s, k := range lets {
		if k == sort {
			l = append(l, s)
		}
	}
	slices.Sort(l)
	if len(l) == 0 || roll()%2 == 0 {
		l = strings.Fields(sets)
		if sort == api.SRel {
			l = strings.Fields(relations + " 0")
		}
	}
	return l[roll()%uint64(len(l))]
}

// randomModel is a model of some rules; its lets are named by those ahead, too.
func randomModel(roll func() uint64, rules, leaves int) api.Model {
	m := api.Model{Name: []string{"t", "po", "SB+x-1", "_"}[roll()%4]}
	lets := map[string]int{}
	fresh := []string{"a", "b.", "c-1", "d+e", "_x", "po.", "Let", strings.Repeat("n", 64)}
	for range rules {
		sort := api.SRel + int(roll()%2)
		r := api.Rule{Kind: api.REmpty, Terms: randomTree(roll, sort, 1+int(roll()%uint64(leaves)), lets).nodes()}
		if sort == api.SRel {
			r.Kind = api.RAcyclic + int(roll()%3)
		}
		if roll()%2 == 0 {
			r.Name = []string{"x", "po", "a", "uniproc", "W"}[roll()%5]
		}
		if roll()%2 == 0 && len(fresh) > 0 {
			r.Kind, r.Name = api.RLet, fresh[0]
			fresh = fresh[1:]
			lets[r.Name] = sort
		}
		m.Rules = append(m.Rules, r)
	}
	return m
}

// modelText is a model's text by the chapter's words.
func modelText(m api.Model) string {
	s := m.Name + "\n"
	for _, r := range m.Rules {
		t, _ := grown(r.Terms)
		switch {
		case r.Kind == api.RLet:
			s += "let " + r.Name + " = " + t.text() + "\n"
			continue
		case r.Kind == api.RAcyclic:
			s += "acyclic "
		case r.Kind == api.RIrreflexive:
			s += "irreflexive "
		default:
			s += "empty "
		}
		s += t.text()
		if r.Name != "" {
			s += " as " + r.Name
		}
		s += "\n"
	}
	return s
}

// same tells whether two models are alike; lists that are empty are the same.
func same(a, b api.Model) bool {
	return a.Name == b.Name && slices.EqualFunc(a.Rules, b.Rules, func(x, y api.Rule) bool {
		return x.Kind == y.Kind && x.Name == y.Name && slices.Equal(x.Terms, y.Terms)
	})
}

func zero(m api.Model) bool { return m.Name == "" && m.Rules == nil }

// samePlace tells whether an error is one at a place.
func samePlace(err error, want *api.PosError) bool {
	var p *api.PosError
	return errors.As(err, &p) && p == err && *p == *want
}

// of is a model of one rule.
func of(kind int, name string, l ...api.Term) api.Model {
	return api.Model{Name: "t", Rules: []api.Rule{{Kind: kind, Name: name, Terms: l}}}
}

func named(s string) api.Term { return api.Term{Op: api.XName, Name: s} }

// checkVerdict holds Check, and the calls that hang on it, against the chapter's words.
func checkVerdict(t *testing.T, m api.Model) {
	t.Helper()
	i, want := verdict(m)
	if n, err := cat.Check(m); n != i || err != want {
		t.Errorf("Check(%v): %d, %d; want %d, %d", m, n, err, i, want)
	}
	s, err := cat.Text(m)
	if err != want || err != api.OK && s != "" || err == api.OK && s != modelText(m) {
		t.Errorf("Text(%v): %q, %d; want %d", m, s, err, want)
	}
	sorts, err := cat.Sorts(m)
	if err != want || err != api.OK && sorts != nil {
		t.Errorf("Sorts(%v): %v, %d; want %d", m, sorts, err, want)
	}
	if want != api.OK {
		if l, err := cat.Inline(m); err != want || !zero(l) {
			t.Errorf("Inline(%v): %v, %d; want %d", m, l, err, want)
		}
		return
	}
	checkSorts(t, m, sorts)
}

// checkSorts holds the sorts of a model that has nothing wrong against the chapter's words.
func checkSorts(t *testing.T, m api.Model, got [][]int) {
	t.Helper()
	if len(got) != len(m.Rules) {
		t.Fatalf("Sorts(%v): %v", m, got)
	}
	names := start()
	for i, r := range m.Rules {
		k, _ := grown(r.Terms)
		want := k.sorts(names)
		if !slices.Equal(got[i], want) {
			t.Fatalf("Sorts(%v): %v; want %v of rule %d", m, got, want, i)
		}
		if r.Kind == api.RLet {
			names[r.Name] = whole(want)
		}
	}
}
