package cond

import (
	"weir/api"
	"weir/lexis"
)

// Take is the condition that stands in some tokens from a place on, and the place behind it.
func Take(l []api.Token, at int) (c api.Cond, end int, err error) {
	if at < 0 || at > len(l) {
		return nil, 0, api.ErrRange
	}
	defer func() {
		if thrown := recover(); thrown != nil {
			c, end, err = nil, 0, fault(thrown)
		}
	}()
	r := reader{tokens: l, at: at}
	r.either()
	return r.nodes, r.at, nil
}

// Parse is the condition of a text.
func Parse(s string) (api.Cond, error) {
	l, err := lexis.All(s)
	if err != nil {
		return nil, err
	}
	line, col, _ := lexis.Place(s, len(s))
	l = append(l, api.Token{Kind: api.TEnd, Line: line, Col: col, At: len(s), End: len(s)})
	c, end, err := Take(l, 0)
	if err != nil {
		return nil, err
	}
	if t := l[end]; t.Kind != api.TEnd {
		return nil, &api.PosError{Line: t.Line, Col: t.Col, Err: api.ErrSyntax}
	}
	return c, nil
}

// fault is what the reader has thrown; nothing else is caught.
func fault(thrown any) error {
	wrong, ok := thrown.(*api.PosError)
	if !ok {
		panic(thrown)
	}
	return wrong
}

// reader reads tokens as a condition: its methods go over what they are named for, answer the number of its node, and throw what is wrong.
type reader struct {
	tokens []api.Token
	at     int
	deep   int // how many ( and ~ are open
	nodes  api.Cond
}

func (r *reader) either() int { return r.chain(`\/`, api.COr, r.both) }

func (r *reader) both() int { return r.chain(`/\`, api.CAnd, r.part) }

// chain reads parts with a sign between them, and takes the first two together first.
func (r *reader) chain(sign string, op int, part func() int) int {
	a := part()
	for r.sees(sign) {
		r.at++
		b := part()
		a = r.add(api.Node{Op: op, A: a, B: b})
	}
	return a
}

func (r *reader) part() int {
	switch {
	case r.sees("~"):
		r.open()
		a := r.part()
		r.deep--
		return r.add(api.Node{Op: api.CNot, A: a})
	case r.sees("("):
		r.open()
		a := r.either()
		r.deep--
		r.sign(")")
		return a
	case r.seesTrue():
		r.at++
		return r.add(api.Node{Op: api.CTrue})
	}
	return r.equation()
}

func (r *reader) equation() int {
	ref := r.ref()
	r.sign("=")
	return r.add(api.Node{Op: api.CIs, Ref: ref, Value: r.number()})
}

func (r *reader) ref() api.Ref {
	if r.sees("[") {
		r.at++
		name := r.name()
		r.sign("]")
		return api.Ref{Thread: -1, Name: name}
	}
	if n, ok := thread(r.next(0)); ok {
		r.at++
		r.sign(":")
		return api.Ref{Thread: n, Name: r.name()}
	}
	return api.Ref{Thread: -1, Name: r.name()}
}

// thread is the thread that a token names. Its digits count, not its Value: they alone are sure to be no more than four.
func thread(t api.Token) (int, bool) {
	if t.Kind != api.TNumber || len(t.Text) < 1 || len(t.Text) > 4 {
		return 0, false
	}
	n := 0
	for _, c := range []byte(t.Text) {
		if c < '0' || c > '9' {
			return 0, false
		}
		n = 10*n + int(c-'0')
	}
	return n, true
}

func (r *reader) name() string {
	t := r.next(0)
	r.must(t.Kind == api.TName && lexis.Name(t.Text))
	r.at++
	return t.Text
}

func (r *reader) number() int64 {
	t := r.next(0)
	r.must(t.Kind == api.TNumber)
	r.at++
	return t.Value
}

func (r *reader) sign(s string) {
	r.must(r.sees(s))
	r.at++
}

// open goes over a ( or ~ , within which all stands until deep is taken back.
func (r *reader) open() {
	if r.deep == api.MaxDepth {
		r.throw(r.at, api.ErrDepth)
	}
	r.deep++
	r.at++
}

// add puts a node behind the others, as soon as its last token has been gone over.
func (r *reader) add(n api.Node) int {
	if len(r.nodes) == api.MaxNodes {
		r.throw(r.at-1, api.ErrLong)
	}
	r.nodes = append(r.nodes, n)
	return len(r.nodes) - 1
}

func (r *reader) sees(sign string) bool { return isSign(r.next(0), sign) }

func (r *reader) seesTrue() bool {
	t := r.next(0)
	return t.Kind == api.TName && t.Text == "true" && !isSign(r.next(1), "=")
}

func isSign(t api.Token, s string) bool { return t.Kind == api.TSign && t.Text == s }

// next is the token that stands so many places further on; behind the list's end that is one which can stand nowhere.
func (r *reader) next(on int) api.Token {
	if on >= len(r.tokens)-r.at {
		return api.Token{Kind: api.TEnd}
	}
	return r.tokens[r.at+on]
}

// must throws, if the next token cannot stand there.
func (r *reader) must(stands bool) {
	if !stands {
		r.throw(r.at, api.ErrSyntax)
	}
}

// throw gives up at a token: behind the list's end at the last one.
func (r *reader) throw(at int, err api.Errno) {
	var t api.Token
	if last := len(r.tokens) - 1; last >= 0 {
		t = r.tokens[min(at, last)]
	}
	panic(&api.PosError{Line: t.Line, Col: t.Col, Err: err})
}
