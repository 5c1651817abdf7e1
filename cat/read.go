package cat

import (
	"weir/api"
	"weir/lexis"
)

// Parse is the model of a text.
func Parse(s string) (api.Model, error) {
	l, err := lexis.All(s)
	if err != nil {
		return api.Model{}, err
	}
	line, col, _ := lexis.Place(s, len(s))
	l = append(l, api.Token{Kind: api.TEnd, Line: line, Col: col})
	m, first, err := read(l)
	if err != nil {
		return api.Model{}, err
	}
	if i, wrong := Check(m); wrong != api.OK {
		return api.Model{}, misfit(first[i], wrong)
	}
	return m, nil
}

// read is the model that tokens say, of which the last one is the text's end, and each rule's first token.
func read(l []api.Token) (m api.Model, first []api.Token, err error) {
	defer func() {
		if thrown := recover(); thrown != nil {
			m, first, err = api.Model{}, nil, fault(thrown)
		}
	}()
	r := reader{tokens: l}
	m.Name = r.name()
	for r.next().Kind != api.TEnd {
		first = append(first, r.next())
		m.Rules = append(m.Rules, r.rule())
	}
	return m, first, nil
}

// fault is what the reader has thrown; nothing else is caught.
func fault(thrown any) error {
	wrong, ok := thrown.(*api.PosError)
	if !ok {
		panic(thrown)
	}
	return wrong
}

// misfit is what is wrong at a token.
func misfit(t api.Token, err api.Errno) *api.PosError {
	return &api.PosError{Line: t.Line, Col: t.Col, Err: err}
}

// reader reads tokens as a model: its methods go over what they are named for, and throw what is wrong. Those for parts of terms answer the numbers of their nodes.
type reader struct {
	tokens []api.Token // the last one is the text's end: nothing goes over it
	at     int
	deep   int        // how many ( , [ and ~ are open
	nodes  int        // how many there are in all rules
	terms  []api.Term // the nodes of the rule that is being read
}

func (r *reader) rule() api.Rule {
	kind := r.kind()
	r.must(kind != 0)
	r.at++
	if kind == api.RLet {
		name := r.name()
		r.sign("=")
		return api.Rule{Kind: kind, Name: name, Terms: r.term()}
	}
	check := api.Rule{Kind: kind, Terms: r.term()}
	if t := r.next(); t.Kind == api.TName && t.Text == namer {
		r.at++
		check.Name = r.name()
	}
	return check
}

// kind is the kind of the rule that begins with the next token; 0: none does.
func (r *reader) kind() int {
	t := r.next()
	if t.Kind != api.TName {
		return 0
	}
	return kindOf(t.Text)
}

func (r *reader) term() []api.Term {
	r.terms = nil
	r.level(bindsUnion)
	return r.terms
}

// level reads parts with operators between that bind so, and takes the first two together first.
func (r *reader) level(binds int) int {
	if binds == bindsNot {
		return r.not()
	}
	a := r.level(binds + 1)
	for op := r.operator(binds); op != 0; op = r.operator(binds) {
		r.at++
		b := r.level(binds + 1)
		a = r.add(api.Term{Op: op, A: a, B: b})
	}
	return a
}

func (r *reader) not() int {
	if !r.sees("~") {
		return r.post()
	}
	r.open()
	a := r.not()
	r.deep--
	return r.add(api.Term{Op: api.XNot, A: a})
}

func (r *reader) post() int {
	a := r.prime()
	for op := r.operator(bindsBehind); op != 0 && !r.crosses(); op = r.operator(bindsBehind) {
		r.at++
		a = r.add(api.Term{Op: op, A: a})
	}
	return a
}

func (r *reader) prime() int {
	t := r.next()
	switch {
	case isName(t):
		r.at++
		return r.add(api.Term{Op: api.XName, Name: t.Text})
	case t.Kind == api.TNumber && t.Text == "0":
		r.at++
		return r.add(api.Term{Op: api.XZero})
	case r.sees("["):
		return r.add(api.Term{Op: api.XOn, A: r.within("]")})
	}
	r.must(r.sees("("))
	return r.within(")")
}

// within reads what stands in brackets; the opening one is the next token.
func (r *reader) within(closing string) int {
	r.open()
	a := r.level(bindsUnion)
	r.sign(closing)
	r.deep--
	return a
}

// open goes over a ( , [ or ~ , within which all stands until deep is taken back.
func (r *reader) open() {
	if r.deep == api.MaxDepth {
		panic(misfit(r.next(), api.ErrDepth))
	}
	r.deep++
	r.at++
}

// add puts a node behind the others, as soon as its last token has been gone over.
func (r *reader) add(n api.Term) int {
	if r.nodes == api.MaxNodes {
		panic(misfit(r.tokens[r.at-1], api.ErrLong))
	}
	r.nodes++
	r.terms = append(r.terms, n)
	return len(r.terms) - 1
}

// operator is the Op whose sign is the next token, among those that bind so; 0: there is none.
func (r *reader) operator(binds int) int {
	for op, row := range operators {
		if row.binds == binds && r.sees(row.sign) {
			return op
		}
	}
	return 0
}

// crosses tells whether the next token is a * that stands between two sets: what stands behind it tells.
func (r *reader) crosses() bool {
	if !r.sees("*") {
		return false
	}
	t := r.tokens[r.at+1]
	return isName(t) || isSign(t, "(") || isSign(t, "[") || isSign(t, "~")
}

func (r *reader) name() string {
	t := r.next()
	r.must(isName(t))
	r.at++
	return t.Text
}

func (r *reader) sign(s string) {
	r.must(r.sees(s))
	r.at++
}

func (r *reader) next() api.Token { return r.tokens[r.at] }

func (r *reader) sees(sign string) bool { return isSign(r.next(), sign) }

// must throws, if the next token cannot stand there.
func (r *reader) must(stands bool) {
	if !stands {
		panic(misfit(r.next(), api.ErrSyntax))
	}
}

func isSign(t api.Token, s string) bool { return t.Kind == api.TSign && t.Text == s }

func isName(t api.Token) bool { return t.Kind == api.TName && !reserved(t.Text) }
