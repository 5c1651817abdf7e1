package litmus_test

import (
	"errors"
	"reflect"
	"strconv"
	"strings"
	"testing"

	"weir/api"
	"weir/cond"
	"weir/lexis"
	"weir/litmus"
)

// dice is a row of words that look unruly and are the same at every run.
func dice(seed uint64) func(n int) int {
	return func(n int) int {
		seed += 0x9e3779b97f4a7c15
		z := (seed ^ seed>>30) * 0xbf58476d1ce4e5b9
		z = (z ^ z>>27) * 0x94d049bb133111eb
		return int((z ^ z>>31) % uint64(n))
	}
}

// oracle is the tokens of a text, as far as lexis can take them, and the furthest one that a pattern has asked for.
type oracle struct {
	text   string
	tokens []api.Token
	wrong  error // what lexis says behind the last token
	far    int
}

func newOracle(s string) *oracle {
	o := &oracle{text: s}
	l := lexis.New(s)
	for {
		t, err := l.Next()
		if err != nil {
			o.wrong = err
			return o
		}
		o.tokens = append(o.tokens, t)
		if t.Kind == api.TEnd {
			return o
		}
	}
}

// pattern goes over tokens in all ways in which it can, without choosing one by what comes next, and calls next at the place behind each. A token is asked for only where all those ahead of it can stand: if no way leads to the end, the furthest one that was asked for is the first that cannot stand there.
type pattern func(o *oracle, at int, next func(at int))

func token(stands func(t api.Token) bool) pattern {
	return func(o *oracle, at int, next func(int)) {
		o.far = max(o.far, at)
		if at < len(o.tokens) && stands(o.tokens[at]) {
			next(at + 1)
		}
	}
}

func kind(k int) pattern { return token(func(t api.Token) bool { return t.Kind == k }) }

func isWord(t api.Token, s string) bool {
	return t.Text == s && (t.Kind == api.TName || t.Kind == api.TSign)
}

// words is some words of the grammar, one behind the other; those in small letters beside them are what the chapter calls so.
func words(all string) pattern {
	var l []pattern
	for _, w := range strings.Fields(all) {
		switch w {
		case "name":
			l = append(l, kind(api.TName))
		case "number":
			l = append(l, kind(api.TNumber))
		case "string":
			l = append(l, kind(api.TString))
		case "thread":
			l = append(l, token(func(t api.Token) bool {
				_, err := strconv.ParseUint(t.Text, 10, 64)
				return t.Kind == api.TNumber && err == nil && len(t.Text) < 5
			}))
		default:
			l = append(l, token(func(t api.Token) bool { return isWord(t, w) }))
		}
	}
	return row(l...)
}

func row(l ...pattern) pattern {
	return func(o *oracle, at int, next func(int)) {
		if len(l) == 0 {
			next(at)
			return
		}
		l[0](o, at, func(at int) { row(l[1:]...)(o, at, next) })
	}
}

func oneOf(l ...pattern) pattern {
	return func(o *oracle, at int, next func(int)) {
		for _, p := range l {
			p(o, at, next)
		}
	}
}

func maybe(p pattern) pattern { return oneOf(row(), p) }

func anyNumber(p pattern) pattern {
	return func(o *oracle, at int, next func(int)) {
		next(at)
		p(o, at, func(at int) { anyNumber(p)(o, at, next) })
	}
}

// later is a pattern that is made when it is needed, as it is part of itself.
func later(make func() pattern) pattern {
	return func(o *oracle, at int, next func(int)) { make()(o, at, next) }
}

func condPattern() pattern {
	and := row(later(notPattern), anyNumber(row(words(`/\`), later(notPattern))))
	return row(and, anyNumber(row(words(`\/`), and)))
}

func notPattern() pattern {
	return oneOf(row(words("~"), later(notPattern)), row(words("("), later(condPattern), words(")")), words("true"),
		words("thread : name = number"), words("name = number"), words("[ name ] = number"))
}

// instrPatterns is all instructions, by the words that api.Instr has for their fields.
func instrPatterns() map[string]int {
	return map[string]int{
		"MOV Reg , $ Imm":            api.OMovImm,
		"MOV Reg , Src":              api.OMovReg,
		"MOV Reg , [ Loc ]":          api.OLoad,
		"MOV [ Loc ] , $ Imm":        api.OStoreImm,
		"MOV [ Loc ] , Src":          api.OStoreReg,
		"MFENCE":                     api.OFence,
		"XCHG [ Loc ] , Reg":         api.OXchg,
		"LOCK CMPXCHG [ Loc ] , Src": api.OCmpxchg,
		"LOCK XADD [ Loc ] , Reg":    api.OXadd,
	}
}

func instrPattern() pattern {
	var l []pattern
	for s := range instrPatterns() {
		l = append(l, words(strings.NewReplacer("Reg", "name", "Src", "name", "Loc", "name", "Imm", "number").Replace(s)))
	}
	return oneOf(l...)
}

// filePattern is all files of some columns at most.
func filePattern(most int) pattern {
	ref := oneOf(words("name"), words("thread : name"), words("[ name ]"))
	list := func(item pattern) pattern {
		return maybe(row(item, anyNumber(row(words(";"), item)), maybe(words(";"))))
	}
	var bodies []pattern
	cell := maybe(instrPattern())
	for n := 1; n <= most; n++ {
		head, cells := []pattern{words("P0")}, []pattern{cell}
		for k := 1; k < n; k++ {
			head = append(head, words("| P"+strconv.Itoa(k)))
			cells = append(cells, words("|"), cell)
		}
		bodies = append(bodies, row(row(head...), words(";"), anyNumber(row(row(cells...), words(";")))))
	}
	return row(words("X86 name"), maybe(words("string")), words("{"), list(row(ref, words("= number"))), words("}"),
		oneOf(bodies...), maybe(row(words("locations ["), list(ref), words("]"))),
		oneOf(words("exists"), words("~ exists"), words("forall")), condPattern(), kind(api.TEnd))
}

// Made once, as they are asked of very many texts.
var (
	wholeFile  = filePattern(4)
	wholeInstr = row(instrPattern(), kind(api.TEnd))
)

// fault is what is wrong, if the text as a whole is none of a pattern.
func (o *oracle) fault(p pattern) error {
	whole := false
	p(o, 0, func(at int) { whole = whole || at == len(o.tokens) })
	switch {
	case whole:
		return nil
	case o.far == len(o.tokens):
		return o.wrong
	}
	t := o.tokens[o.far]
	return &api.PosError{Line: t.Line, Col: t.Col, Err: api.ErrSyntax}
}

// split is the pieces of some tokens between some signs.
func split(l []api.Token, at ...string) [][]api.Token {
	pieces := [][]api.Token{nil}
	for _, t := range l {
		cut := false
		for _, s := range at {
			cut = cut || isWord(t, s)
		}
		if cut {
			pieces = append(pieces, nil)
			continue
		}
		last := len(pieces) - 1
		pieces[last] = append(pieces[last], t)
	}
	return pieces
}

// until is how many tokens stand ahead of the first one with a text.
func until(l []api.Token, s string) int {
	for i, t := range l {
		if isWord(t, s) {
			return i
		}
	}
	return len(l)
}

func refOf(l []api.Token) api.Ref {
	switch {
	case len(l) == 1:
		return api.Ref{Thread: -1, Name: l[0].Text}
	case isWord(l[0], "["):
		return api.Ref{Thread: -1, Name: l[1].Text}
	}
	n, _ := strconv.Atoi(l[0].Text)
	return api.Ref{Thread: n, Name: l[2].Text}
}

// instrOf is the instruction of tokens that are one.
func instrOf(l []api.Token) api.Instr {
	for s, op := range instrPatterns() {
		fields := strings.Fields(s)
		in, same := api.Instr{Op: op}, len(fields) == len(l)
		for i, w := range fields {
			if !same {
				break
			}
			switch t := l[i]; w {
			case "Reg":
				in.Reg, same = t.Text, t.Kind == api.TName
			case "Src":
				in.Src, same = t.Text, t.Kind == api.TName
			case "Loc":
				in.Loc, same = t.Text, t.Kind == api.TName
			case "Imm":
				in.Imm, same = t.Value, t.Kind == api.TNumber
			default:
				same = isWord(t, w)
			}
		}
		if same {
			return in
		}
	}
	panic("no instruction")
}

// cut takes a file that is one apart at its signs: its test, and the first token of each part.
func (o *oracle) cut() (api.Test, map[api.Where]api.Token) {
	var x api.Test
	first := map[api.Where]api.Token{}
	l := o.tokens[:len(o.tokens)-1]
	x.Name = l[1].Text
	if l[2].Kind == api.TString {
		x.Doc = l[2].Text
	}
	l = l[until(l, "{")+1:]
	end := until(l, "}")
	for _, p := range split(l[:end], ";") {
		if len(p) > 0 {
			first[api.Where{Part: api.WInit, I: len(x.Inits)}] = p[0]
			x.Inits = append(x.Inits, api.Init{Ref: refOf(p[:len(p)-2]), Value: p[len(p)-1].Value})
		}
	}
	l = l[end+1:]
	for head := true; head || strings.Trim(l[0].Text, "|;") == "" || strings.Contains("MOV MFENCE XCHG LOCK", l[0].Text); head = false {
		end := until(l, ";")
		for k, p := range split(l[:end], "|") {
			switch {
			case head:
				first[api.Where{Part: api.WThread, I: k}] = p[0]
				x.Threads = append(x.Threads, nil)
			case len(p) > 0:
				first[api.Where{Part: api.WInstr, I: k, K: len(x.Threads[k])}] = p[0]
				x.Threads[k] = append(x.Threads[k], instrOf(p))
			}
		}
		l = l[end+1:]
	}
	if l[0].Text == "locations" {
		l = o.cutWatch(l[2:], &x, first)
	}
	x.Quant = map[string]int{"exists": api.Exists, "~": api.NotExists, "forall": api.Forall}[l[0].Text]
	if isWord(l[0], "~") {
		l = l[1:]
	}
	o.cutCond(l[1:], &x, first)
	return x, first
}

// cutWatch takes apart what stands behind the [ of locations, and answers what stands behind its ].
func (o *oracle) cutWatch(l []api.Token, x *api.Test, first map[api.Where]api.Token) []api.Token {
	open, end := 1, 0
	for ; open > 0; end++ {
		open += map[string]int{"[": 1, "]": -1}[l[end].Text]
	}
	for _, p := range split(l[:end-1], ";") {
		if len(p) > 0 {
			first[api.Where{Part: api.WWatch, I: len(x.Watch)}] = p[0]
			x.Watch = append(x.Watch, refOf(p))
		}
	}
	return l[end:]
}

func (o *oracle) cutCond(l []api.Token, x *api.Test, first map[api.Where]api.Token) {
	c, err := cond.Parse(o.text[l[0].At:])
	if err != nil {
		panic(err)
	}
	x.Cond = c
	node := 0
	for _, p := range split(l, "(", ")", "~", `/\`, `\/`) {
		if len(p) < 2 {
			continue
		}
		for c[node].Op != api.CIs {
			node++
		}
		first[api.Where{Part: api.WCond, I: node}] = p[0]
		node++
	}
}

// same tells whether two tests are the same: an empty list may be nil.
func same(a, b api.Test) bool {
	tidy := func(x api.Test) api.Test {
		x.Inits = append([]api.Init{}, x.Inits...)
		x.Watch = append([]api.Ref{}, x.Watch...)
		x.Cond = append(api.Cond{}, x.Cond...)
		threads := [][]api.Instr{}
		for _, l := range x.Threads {
			threads = append(threads, append([]api.Instr{}, l...))
		}
		x.Threads = threads
		return x
	}
	return reflect.DeepEqual(tidy(a), tidy(b))
}

// sameFault tells whether an error is what it must be, of the same type too.
func sameFault(err, want error) bool {
	var p, q *api.PosError
	if errors.As(want, &q) {
		return errors.As(err, &p) && error(p) == err && *p == *q
	}
	return err == want
}

// checkFile holds Parse and Locate against the oracle.
func checkFile(t *testing.T, s string) bool {
	t.Helper()
	o := newOracle(s)
	want := o.fault(wholeFile)
	got, err := litmus.Parse(s)
	if !sameFault(err, want) {
		t.Errorf("Parse(%q): %v; want %v", s, err, want)
		return false
	}
	if want != nil {
		if !reflect.DeepEqual(got, api.Test{}) {
			t.Errorf("Parse(%q): %v beside %v", s, got, err)
		}
		for part := range 7 {
			checkPlace(t, s, api.Where{Part: part}, nil)
		}
		return false
	}
	x, first := o.cut()
	if !same(got, x) {
		t.Errorf("Parse(%q): %v; want %v", s, got, x)
	}
	for part := -1; part < 8; part++ {
		for i := -1; i < 6; i++ {
			for k := -1; k < 4; k++ {
				checkPlace(t, s, api.Where{Part: part, I: i, K: k}, first)
			}
		}
	}
	for w := range first {
		checkPlace(t, s, w, first)
	}
	return true
}

func checkPlace(t *testing.T, s string, w api.Where, first map[api.Where]api.Token) {
	t.Helper()
	want, there := first[w]
	if line, col, ok := litmus.Locate(s, w); line != want.Line || col != want.Col || ok != there {
		t.Errorf("Locate(%q, %v): %d:%d, %v; want %d:%d, %v", s, w, line, col, ok, want.Line, want.Col, there)
	}
}

// checkInstr holds Instruction against the oracle.
func checkInstr(t *testing.T, s string) {
	t.Helper()
	o := newOracle(s)
	wrong := o.fault(wholeInstr)
	var want api.Instr
	if wrong == nil {
		want = instrOf(o.tokens[:len(o.tokens)-1])
	}
	if got, err := litmus.Instruction(s); got != want || !sameFault(err, wrong) {
		t.Errorf("Instruction(%q): %v, %v; want %v, %v", s, got, err, want, wrong)
	}
}
