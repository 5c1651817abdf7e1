package cat_test

import (
	"slices"
	"strings"
	"testing"

	"weir/api"
	"weir/cat"
	"weir/lexis"
)

// oracle reads tokens without looking within: it goes over them with a list of what is open, and splits the terms that it has gone over at their outermost signs.
type oracle struct {
	tokens []api.Token // with the text's end
	state  string      // what must stand next; whole: a part has just ended
	open   []byte      // the ( , [ and ~ within which the next token stands
	begin  int         // where the term begins
	first  []api.Token // of each rule
	model  api.Model
	last   []int // of each node of all rules its last token
}

func isSign(t api.Token, s string) bool { return t.Kind == api.TSign && t.Text == s }

// opens tells whether a token begins a part within which others stand.
func opens(t api.Token) bool { return isSign(t, "(") || isSign(t, "[") || isSign(t, "~") }

func nameToken(t api.Token) bool { return t.Kind == api.TName && !isWord(t.Text) }

// crossing tells whether the token at a place is a cross.
func (o *oracle) crossing(i int) bool {
	t := o.tokens[i]
	return isSign(t, "*") && (nameToken(o.tokens[i+1]) || opens(o.tokens[i+1]))
}

func (o *oracle) joins(i int) bool {
	t := o.tokens[i]
	return isSign(t, "|") || isSign(t, ";") || isSign(t, `\`) || isSign(t, "&") || o.crossing(i)
}

// after is what must stand behind a token; "" if it cannot stand there.
func (o *oracle) after(i int) string {
	t := o.tokens[i]
	kind := o.kind()
	switch {
	case o.state == "model" && nameToken(t), o.state == "as" && nameToken(t):
		return "rule"
	case o.state == "let" && nameToken(t):
		return "="
	case o.state == "=" && isSign(t, "="):
		return "part"
	case o.state == "part" && opens(t):
		return "part"
	case o.state == "part" && (nameToken(t) || t.Kind == api.TNumber && t.Text == "0"):
		return "whole"
	case o.state == "whole" && o.joins(i):
		return "part"
	case o.state == "whole" && (isSign(t, "^-1") || isSign(t, "+") || isSign(t, "?") || isSign(t, "*")):
		return "whole"
	case o.state == "whole" && (isSign(t, ")") && o.innermost() == '(' || isSign(t, "]") && o.innermost() == '['):
		return "whole"
	case o.state == "whole" && o.innermost() == 0 && t.Kind == api.TName && t.Text == "as" && kind != api.RLet:
		return "as"
	case o.state == "rule" || o.state == "whole" && o.innermost() == 0:
		return o.opening(t)
	}
	return ""
}

// opening is what must stand behind a token that begins a rule, or is the end.
func (o *oracle) opening(t api.Token) string {
	switch {
	case t.Kind == api.TEnd:
		return "end"
	case t.Kind == api.TName && t.Text == "let":
		return "let"
	case t.Kind == api.TName && isWord(t.Text) && t.Text != "as":
		return "part"
	}
	return ""
}

// kind is that of the last rule.
func (o *oracle) kind() int {
	if len(o.model.Rules) == 0 {
		return 0
	}
	return o.model.Rules[len(o.model.Rules)-1].Kind
}

// innermost is the bracket within which the next token stands; 0: none.
func (o *oracle) innermost() byte {
	l := strings.TrimRight(string(o.open), "~")
	if l == "" {
		return 0
	}
	return l[len(l)-1]
}

// read is what Parse must answer of the tokens.
func (o *oracle) read() (api.Model, *api.PosError) {
	o.state = "model"
	for i := range o.tokens {
		next := o.after(i)
		if next == "" {
			return api.Model{}, o.fault(i, api.ErrSyntax)
		}
		deep := o.state == "part" && opens(o.tokens[i])
		if deep && len(o.open) == 64 {
			return api.Model{}, o.fault(i, api.ErrDepth)
		}
		o.step(i, next, deep)
	}
	if len(o.last) > 1024 {
		return api.Model{}, o.place(o.last[1024], api.ErrLong)
	}
	if i, err := verdict(o.model); err != api.OK {
		return api.Model{}, &api.PosError{Line: o.first[i].Line, Col: o.first[i].Col, Err: err}
	}
	return o.model, nil
}

// step goes over a token that can stand there.
func (o *oracle) step(i int, next string, deep bool) {
	t := o.tokens[i]
	if o.state == "whole" && (next == "part" && o.joins(i) || isSign(t, ")") || isSign(t, "]")) {
		o.open = []byte(strings.TrimRight(string(o.open), "~"))
	}
	if deep {
		o.open = append(o.open, t.Text[0])
	}
	if isSign(t, ")") || isSign(t, "]") {
		o.open = o.open[:len(o.open)-1]
	}
	rule := o.state == "rule" || o.state == "whole" && o.innermost() == 0 && o.opening(t) != ""
	if o.state == "whole" && (rule || next == "as") {
		o.model.Rules[len(o.model.Rules)-1].Terms = o.term(o.begin, i)
		o.open = nil
	}
	if rule && next != "end" {
		kind := slices.Index([]string{"", "let", "acyclic", "irreflexive", "empty"}, t.Text)
		o.model.Rules = append(o.model.Rules, api.Rule{Kind: kind})
		o.first = append(o.first, t)
		o.begin = i + 1
	}
	switch o.state {
	case "model":
		o.model.Name = t.Text
	case "let":
		o.model.Rules[len(o.model.Rules)-1].Name = t.Text
		o.begin = i + 2
	case "as":
		o.model.Rules[len(o.model.Rules)-1].Name = t.Text
	}
	o.state = next
}

func (o *oracle) place(i int, err api.Errno) *api.PosError {
	return &api.PosError{Line: o.tokens[i].Line, Col: o.tokens[i].Col, Err: err}
}

// fault is what is wrong of tokens that cannot be read further than to end. A term that is broken off is closed by tokens of its own, so that the nodes ahead of the break are known too.
func (o *oracle) fault(end int, err api.Errno) *api.PosError {
	if o.state == "part" || o.state == "whole" {
		whole := &oracle{tokens: slices.Clone(o.tokens[:end]), last: slices.Clone(o.last)}
		if o.state == "part" {
			whole.tokens = append(whole.tokens, api.Token{Kind: api.TName, Text: "po"})
		}
		for _, c := range slices.Backward(o.open) {
			if c != '~' {
				whole.tokens = append(whole.tokens, api.Token{Kind: api.TSign, Text: map[byte]string{'(': ")", '[': "]"}[c]})
			}
		}
		size := len(whole.tokens)
		whole.tokens = append(whole.tokens, api.Token{Kind: api.TEnd})
		whole.term(o.begin, size)
		o.last = whole.last
	}
	if len(o.last) > 1024 && o.last[1024] < end {
		return o.place(o.last[1024], api.ErrLong)
	}
	return o.place(end, err)
}

// term is the nodes of the tokens from lo on, ahead of hi, which make a term.
func (o *oracle) term(lo, hi int) []api.Term {
	var out []api.Term
	put := func(n api.Term, hi int) int {
		out = append(out, n)
		o.last = append(o.last, hi-1)
		return len(out) - 1
	}
	var grow func(lo, hi int) int
	grow = func(lo, hi int) int {
		if op, m := o.split(lo, hi); m >= 0 {
			a := grow(lo, m)
			b := grow(m+1, hi)
			return put(api.Term{Op: op, A: a, B: b}, hi)
		}
		t, end := o.tokens[lo], o.tokens[hi-1]
		switch {
		case isSign(t, "~"):
			return put(api.Term{Op: api.XNot, A: grow(lo+1, hi)}, hi)
		case isSign(t, "(") && isSign(end, ")"):
			return grow(lo+1, hi-1)
		case isSign(t, "[") && isSign(end, "]"):
			return put(api.Term{Op: api.XOn, A: grow(lo+1, hi-1)}, hi)
		case hi-lo == 1 && t.Kind == api.TNumber:
			return put(api.Term{Op: api.XZero}, hi)
		case hi-lo == 1:
			return put(api.Term{Op: api.XName, Name: t.Text}, hi)
		}
		op := map[string]int{"^-1": api.XInv, "+": api.XPlus, "*": api.XStar, "?": api.XOpt}[end.Text]
		return put(api.Term{Op: op, A: grow(lo, hi-1)}, hi)
	}
	grow(lo, hi)
	return out
}

// split is the loosest operator with two parts that stands in no brackets, and the last place at which it does; -1: none does.
func (o *oracle) split(lo, hi int) (int, int) {
	op, found, open := 0, -1, 0
	for i := lo; i < hi; i++ {
		t := o.tokens[i]
		if t.Kind != api.TSign {
			continue
		}
		switch {
		case t.Text == "(", t.Text == "[":
			open++
		case t.Text == ")", t.Text == "]":
			open--
		case open == 0 && o.joins(i):
			if k := binary()[strings.Index(`|;\&*`, t.Text)]; found < 0 || tight(k) <= tight(op) {
				op, found = k, i
			}
		}
	}
	return op, found
}

// checkRead holds Parse against the oracle.
func checkRead(t *testing.T, s string) {
	t.Helper()
	l, err := lexis.All(s)
	if err != nil {
		t.Fatalf("All(%.80q): %v", s, err)
	}
	line, col, _ := lexis.Place(s, len(s))
	l = append(l, api.Token{Kind: api.TEnd, Line: line, Col: col})
	want, fault := (&oracle{tokens: l}).read()
	got, err := cat.Parse(s)
	if fault == nil && err == nil && same(got, want) {
		return
	}
	if fault != nil && samePlace(err, fault) && zero(got) {
		return
	}
	t.Errorf("Parse(%.300q): %v, %v; want %v, %v", s, got, err, want, fault)
}
