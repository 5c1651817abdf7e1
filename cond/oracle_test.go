package cond_test

import (
	"errors"
	"slices"
	"strings"
	"testing"

	"weir/api"
	"weir/cond"
	"weir/lexis"
)

// dice is a row of words that look unruly and are the same at every run.
func dice(seed uint64) func() uint64 {
	return func() uint64 {
		seed += 0x9e3779b97f4a7c15
		z := (seed ^ seed>>30) * 0xbf58476d1ce4e5b9
		z = (z ^ z>>27) * 0x94d049bb133111eb
		return z ^ z>>31
	}
}

func loc(name string) api.Ref { return api.Ref{Thread: -1, Name: name} }

func reg(thread int, name string) api.Ref { return api.Ref{Thread: thread, Name: name} }

func is(r api.Ref, v int64) api.Node { return api.Node{Op: api.CIs, Ref: r, Value: v} }

func yes() api.Node { return api.Node{Op: api.CTrue} }

func not(a int) api.Node { return api.Node{Op: api.CNot, A: a} }

func and(a, b int) api.Node { return api.Node{Op: api.CAnd, A: a, B: b} }

func or(a, b int) api.Node { return api.Node{Op: api.COr, A: a, B: b} }

// tree is a condition as its words say it: what a node is made of hangs on it.
type tree struct {
	op   int
	leaf api.Node // of CTrue and CIs
	a, b *tree
}

// nodes is a tree's nodes, each one's A, then its B, then itself.
func (t *tree) nodes() api.Cond {
	var out api.Cond
	var put func(t *tree) int
	put = func(t *tree) int {
		n := t.leaf
		if t.a != nil {
			n = api.Node{Op: t.op, A: put(t.a)}
		}
		if t.b != nil {
			n.B = put(t.b)
		}
		out = append(out, n)
		return len(out) - 1
	}
	put(t)
	return out
}

func leaf(n api.Node) *tree { return &tree{op: n.Op, leaf: n} }

// trees is all trees of so many nodes, made of some leaves.
func trees(size int, leaves []api.Node) []*tree {
	all := make([][]*tree, size+1)
	for _, n := range leaves {
		all[1] = append(all[1], leaf(n))
	}
	for n := 2; n <= size; n++ {
		for _, a := range all[n-1] {
			all[n] = append(all[n], &tree{op: api.CNot, a: a})
		}
		for k := 1; k < n-1; k++ {
			for _, a := range all[k] {
				for _, b := range all[n-1-k] {
					all[n] = append(all[n], &tree{op: api.CAnd, a: a, b: b}, &tree{op: api.COr, a: a, b: b})
				}
			}
		}
	}
	return all[size]
}

// someLeaves is leaves of which each has a reference of its own, or none.
func someLeaves() []api.Node { return []api.Node{yes(), is(loc("x"), 1), is(reg(0, "EAX"), 0)} }

// randomTree is a tree of some leaves.
func randomTree(roll func() uint64, leaves int) *tree {
	var t *tree
	if leaves <= 1 {
		names := []string{"x", "y", "z", "true", "EAX", "a-1"}
		r := reg(int(roll()%4)-1, names[roll()%6])
		t = leaf(is(r, int64(roll()%3)-1))
		if roll()%8 == 0 {
			t = leaf(yes())
		}
	} else {
		k := 1 + int(roll()%uint64(leaves-1))
		t = &tree{op: api.CAnd + int(roll()%2), a: randomTree(roll, k), b: randomTree(roll, leaves-k)}
	}
	for roll()%4 == 0 {
		t = &tree{op: api.CNot, a: t}
	}
	return t
}

// oracle reads tokens without looking within: it goes over them with a list of what is open, and splits what it has gone over at its outermost sign.
type oracle struct {
	tokens []api.Token
	open   []byte // the ( and ~ within which the next token stands
	nodes  api.Cond
	last   []int // of each node its last token
}

func sign(t api.Token, s string) bool { return t.Kind == api.TSign && t.Text == s }

// after is what must stand behind a token of which the state tells what it must be; "" if it cannot stand there. In the state whole a part has just ended.
func (o *oracle) after(state string, t api.Token, behind api.Token) string {
	name := t.Kind == api.TName && lexis.Name(t.Text)
	switch {
	case state == "part" && (sign(t, "(") || sign(t, "~")):
		return "part"
	case state == "part" && sign(t, "["):
		return "[name"
	case state == "part" && t.Kind == api.TName && t.Text == "true" && !sign(behind, "="):
		return "whole"
	case state == "part" && t.Kind == api.TNumber && isThread(t.Text):
		return ":"
	case state == ":" && sign(t, ":"):
		return "name"
	case state == "[name" && name:
		return "]"
	case state == "]" && sign(t, "]"), (state == "part" || state == "name") && name:
		return "="
	case state == "=" && sign(t, "="):
		return "number"
	case state == "number" && t.Kind == api.TNumber:
		return "whole"
	case state == "whole" && (sign(t, `/\`) || sign(t, `\/`)):
		return "part"
	case state == "whole" && sign(t, ")") && len(o.open) > 0:
		return "whole"
	}
	return ""
}

func isThread(s string) bool {
	return len(s) >= 1 && len(s) <= 4 && strings.Trim(s, "0123456789") == ""
}

// take is what Take must answer. What is broken off is closed by tokens of its own, so that the nodes ahead of the break are known too.
func (o *oracle) take(at int) (api.Cond, int, *api.PosError) {
	state, end := "part", at
	for ; ; end++ {
		t := o.token(end)
		if state == "whole" && len(o.open) == 0 && !sign(t, `/\`) && !sign(t, `\/`) {
			break
		}
		next := o.after(state, t, o.token(end+1))
		deep := state == "part" && (sign(t, "(") || sign(t, "~"))
		if next == "" || deep && len(o.open) == 64 {
			return nil, 0, o.fault(at, end, state, deep)
		}
		if deep {
			o.open = append(o.open, t.Text[0])
		}
		if state == "whole" && next == "whole" {
			o.open = o.open[:len(o.open)-1]
		}
		if next == "whole" {
			o.open = []byte(strings.TrimRight(string(o.open), "~"))
		}
		state = next
	}
	o.grow(at, end)
	if len(o.nodes) > 1024 {
		return nil, 0, o.place(o.last[1024], api.ErrLong)
	}
	return o.nodes, end, nil
}

func (o *oracle) token(i int) api.Token {
	if i < len(o.tokens) {
		return o.tokens[i]
	}
	return api.Token{}
}

func (o *oracle) place(i int, err api.Errno) *api.PosError {
	if len(o.tokens) == 0 {
		return &api.PosError{Err: err}
	}
	t := o.tokens[min(i, len(o.tokens)-1)]
	return &api.PosError{Line: t.Line, Col: t.Col, Err: err}
}

// fault is what is wrong of tokens that cannot be read further than to end.
func (o *oracle) fault(at, end int, state string, deep bool) *api.PosError {
	closing := map[string]string{"part": "true", ":": ":x=1", "name": "x=1", "[name": "x]=1", "]": "]=1", "=": "=1", "number": "1", "whole": ""}[state]
	closing += strings.Repeat(")", strings.Count(string(o.open), "("))
	l, err := lexis.All(closing)
	if err != nil {
		panic(err)
	}
	whole := &oracle{tokens: append(slices.Clone(o.tokens[:end]), l...)}
	whole.grow(at, len(whole.tokens))
	if len(whole.nodes) > 1024 && whole.last[1024] < end {
		return o.place(whole.last[1024], api.ErrLong)
	}
	if deep {
		return o.place(end, api.ErrDepth)
	}
	return o.place(end, api.ErrSyntax)
}

// grow puts the nodes of the tokens from lo on, ahead of hi, which make a condition.
func (o *oracle) grow(lo, hi int) int {
	for i, s := range []string{`\/`, `/\`} {
		if m := o.split(lo, hi, s); m >= 0 {
			a := o.grow(lo, m)
			b := o.grow(m+1, hi)
			return o.put(api.Node{Op: api.COr - i, A: a, B: b}, hi-1)
		}
	}
	t := o.tokens[lo]
	switch {
	case sign(t, "~"):
		return o.put(not(o.grow(lo+1, hi)), hi-1)
	case sign(t, "("):
		return o.grow(lo+1, hi-1)
	case hi-lo == 1:
		return o.put(yes(), hi-1)
	}
	v := o.tokens[hi-1].Value
	switch hi - lo {
	case 3:
		return o.put(is(loc(t.Text), v), hi-1)
	case 5:
		if sign(t, "[") {
			return o.put(is(loc(o.tokens[lo+1].Text), v), hi-1)
		}
		thread := 0
		for _, c := range t.Text {
			thread = thread*10 + strings.IndexRune("0123456789", c)
		}
		return o.put(is(reg(thread, o.tokens[lo+2].Text), v), hi-1)
	}
	panic("no part")
}

// split is the last place at which a sign stands in no brackets.
func (o *oracle) split(lo, hi int, s string) int {
	found, open := -1, 0
	for i := lo; i < hi; i++ {
		switch {
		case sign(o.tokens[i], "("):
			open++
		case sign(o.tokens[i], ")"):
			open--
		case open == 0 && sign(o.tokens[i], s):
			found = i
		}
	}
	return found
}

func (o *oracle) put(n api.Node, last int) int {
	o.nodes = append(o.nodes, n)
	o.last = append(o.last, last)
	return len(o.nodes) - 1
}

// samePlace tells whether an error is one at a place.
func samePlace(err error, want *api.PosError) bool {
	var p *api.PosError
	return errors.As(err, &p) && p == err && *p == *want
}

// checkTake holds Take against the oracle.
func checkTake(t *testing.T, l []api.Token, at int) {
	t.Helper()
	wantCond, wantEnd, fault := (&oracle{tokens: l}).take(at)
	c, end, err := cond.Take(l, at)
	if fault == nil && err == nil && end == wantEnd && slices.Equal(c, wantCond) {
		return
	}
	if fault != nil && samePlace(err, fault) && c == nil && end == 0 {
		return
	}
	t.Errorf("Take(%s, %d): %v, %d, %v; want %v, %d, %v", told(l), at, c, end, err, wantCond, wantEnd, fault)
}

func told(l []api.Token) string {
	var out []string
	for _, t := range l {
		out = append(out, t.Text)
	}
	return strings.Join(out, " ")
}

// placed is tokens, each at a place of its own.
func placed(l ...api.Token) []api.Token {
	for i := range l {
		l[i].Line, l[i].Col = i/7+1, 3*i+2
	}
	return l
}

func signs(all ...string) []api.Token {
	var out []api.Token
	for _, s := range all {
		out = append(out, api.Token{Kind: api.TSign, Text: s})
	}
	return out
}

func name(s string) api.Token { return api.Token{Kind: api.TName, Text: s} }

func number(s string, v int64) api.Token { return api.Token{Kind: api.TNumber, Text: s, Value: v} }

// tokensOf is the tokens of a text that has no fault.
func tokensOf(t *testing.T, s string) []api.Token {
	t.Helper()
	l, err := lexis.All(s)
	if err != nil {
		t.Fatalf("All(%.80q): %v", s, err)
	}
	return l
}

// lists is all lists of up to so many pieces, one behind the other.
func lists(pieces [][]api.Token, most int, test func([]api.Token)) {
	var grow func(l []api.Token, n int)
	grow = func(l []api.Token, n int) {
		test(placed(slices.Clone(l)...))
		if n == most {
			return
		}
		for _, p := range pieces {
			grow(append(l[:len(l):len(l)], p...), n+1)
		}
	}
	grow(nil, 0)
}
