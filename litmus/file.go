package litmus

import (
	"errors"
	"strconv"

	"weir/api"
	"weir/cond"
)

// file is a test, and where the first token of each of its parts stands.
type file struct {
	test   api.Test
	inits  []place
	heads  []place
	instrs [][]place
	watch  []place
	nodes  []place // of the condition; no place of those that are no equations
}

// place is a line and a column.
type place struct {
	line, col int
}

func placeOf(t api.Token) place { return place{line: t.Line, col: t.Col} }

// find is where a part stands; false: there is no such part.
func (f *file) find(w api.Where) (place, bool) {
	if w.K != 0 && w.Part != api.WInstr {
		return place{}, false
	}
	switch w.Part {
	case api.WInit:
		return pick(f.inits, w.I)
	case api.WThread:
		return pick(f.heads, w.I)
	case api.WInstr:
		if w.I < 0 || w.I >= len(f.instrs) {
			return place{}, false
		}
		return pick(f.instrs[w.I], w.K)
	case api.WWatch:
		return pick(f.watch, w.I)
	case api.WCond:
		return pick(f.nodes, w.I)
	}
	return place{}, false
}

func pick(l []place, i int) (place, bool) {
	if i < 0 || i >= len(l) {
		return place{}, false
	}
	return l[i], l[i] != place{}
}

// readFile reads a text as a litmus file.
func readFile(text string) (*file, error) {
	f := &file{}
	err := read(text, func(r *reader) {
		f.title(r)
		f.settings(r)
		f.columns(r)
		for !r.sees("locations") && !seesQuant(r) {
			f.row(r)
		}
		f.watched(r)
		f.question(r)
	})
	if err != nil {
		return nil, err
	}
	return f, nil
}

func (f *file) title(r *reader) {
	r.word("X86")
	f.test.Name = r.name()
	if r.token.Kind == api.TString {
		f.test.Doc = r.token.Text
		r.advance()
	}
}

func (f *file) settings(r *reader) {
	r.word("{")
	list(r, "}", func() {
		f.inits = append(f.inits, placeOf(r.token))
		ref := r.ref()
		r.word("=")
		f.test.Inits = append(f.test.Inits, api.Init{Ref: ref, Value: r.number()})
	})
}

func (f *file) watched(r *reader) {
	if !r.takes("locations") {
		return
	}
	r.word("[")
	list(r, "]", func() {
		f.watch = append(f.watch, placeOf(r.token))
		f.test.Watch = append(f.test.Watch, r.ref())
	})
}

// list reads items to the word behind them, with a ; between any two and perhaps one behind the last.
func list(r *reader, end string, item func()) {
	for !r.takes(end) {
		item()
		if !r.sees(end) {
			r.word(";")
		}
	}
}

// columns reads the heads, as many as there are: whether that is too many is asked by a layer behind.
func (f *file) columns(r *reader) {
	for k := 0; k == 0 || r.takes("|"); k++ {
		f.heads = append(f.heads, placeOf(r.token))
		r.word("P" + strconv.Itoa(k))
	}
	r.word(";")
	f.test.Threads = make([][]api.Instr, len(f.heads))
	f.instrs = make([][]place, len(f.heads))
}

func (f *file) row(r *reader) {
	for k := range f.heads {
		if k > 0 {
			r.word("|")
		}
		if r.sees("|") || r.sees(";") {
			continue
		}
		f.instrs[k] = append(f.instrs[k], placeOf(r.token))
		f.test.Threads[k] = append(f.test.Threads[k], r.instruction())
	}
	r.word(";")
}

func seesQuant(r *reader) bool { return r.sees("exists") || r.sees("~") || r.sees("forall") }

func (f *file) question(r *reader) {
	switch {
	case r.sees("exists"):
		f.test.Quant = api.Exists
	case r.takes("~"):
		r.must(r.sees("exists"))
		f.test.Quant = api.NotExists
	default:
		r.must(r.sees("forall"))
		f.test.Quant = api.Forall
	}
	f.condition(r)
}

// condition reads all that stands behind the quantifier. The last token stands for the text's end, or for what lexis could not take: then it has no place, by which what Take says of it is told from the rest.
func (f *file) condition(r *reader) {
	tokens, wrong := rest(r)
	c, end, err := cond.Take(tokens, 0)
	if err != nil {
		var at *api.PosError
		if errors.As(err, &at) && at.Line == 0 {
			err = wrong
		}
		panic(surrender{err})
	}
	if end < len(tokens)-1 {
		panic(misplaced(tokens[end]))
	}
	if wrong != nil {
		panic(surrender{wrong})
	}
	f.test.Cond = c
	f.nodes = equations(c, tokens[:end])
}

// rest is the tokens behind the next one, the end too; or those that lexis could take, an empty one, and what is wrong there.
func rest(r *reader) ([]api.Token, error) {
	var all []api.Token
	for {
		t, err := r.lexer.Next()
		all = append(all, t)
		if err != nil || t.Kind == api.TEnd {
			return all, err
		}
	}
}

// equations is where a condition's equations begin. They have been read in the order in which they stand, and nothing else has an = .
func equations(c api.Cond, l []api.Token) []place {
	places := make([]place, len(c))
	node := 0
	for i, t := range l {
		if t.Kind != api.TSign || t.Text != "=" {
			continue
		}
		for c[node].Op != api.CIs {
			node++
		}
		places[node] = placeOf(l[i-refLength(l[:i])])
		node++
	}
	return places
}

// refLength is how many tokens the reference has that stands at the end of some.
func refLength(l []api.Token) int {
	last := len(l) - 1
	if l[last].Text == "]" || last > 0 && l[last-1].Text == ":" {
		return 3
	}
	return 1
}
