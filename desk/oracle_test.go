package desk_test

import (
	"fmt"
	"maps"
	"math"
	"regexp"
	"slices"
	"strings"
	"testing"

	"weir/allow"
	"weir/api"
	"weir/axiom"
	"weir/cand"
	"weir/canon"
	"weir/cat"
	"weir/cycle"
	"weir/explore"
	"weir/lexis"
	"weir/litmus"
	"weir/model"
	"weir/print"
	"weir/prog"
	"weir/reduce"
	"weir/robust"
	"weir/script"
	"weir/state"
	"weir/verdict"
	"weir/witness"
)

// forms is the commands as the chapter's table has them.
const forms = `test N <<
cycle N E
model N <<
known N K
form N A
copy N A
drop A
items
show A
same A B
run A K
allow A B
table
size A K
shows A K
play A K P
story A K P
why A K
robust A
fences A`

// piece is a command and its block, as they stand in a script.
type piece struct {
	text  string
	words []string
	block string
	has   bool
}

var (
	wordForm  = regexp.MustCompile(`[^ \t\r]+`)
	blockForm = regexp.MustCompile(`(?s)^<<(.+)$`)
)

// pieces is a script's commands, and the lines that are nothing, each of them with its line feed.
func pieces(script string) []piece {
	lines := strings.SplitAfter(script, "\n")
	var l []piece
	for i := 0; i < len(lines); i++ {
		p := piece{text: lines[i], words: wordForm.FindAllString(strings.TrimSuffix(lines[i], "\n"), -1)}
		if len(p.words) >= 2 && p.words[0][0] != '#' {
			if m := blockForm.FindStringSubmatch(p.words[len(p.words)-1]); m != nil {
				p.has = true
				end := slices.IndexFunc(lines[i+1:], func(s string) bool { return s == m[1] || s == m[1]+"\n" })
				if end < 0 {
					end = len(lines) - i - 1
				}
				p.block = strings.Join(lines[i+1:i+1+end], "")
				upTo := min(i+1+end, len(lines)-1)
				p.text = strings.Join(lines[i:upTo+1], "")
				i = upTo
			}
		}
		l = append(l, p)
	}
	return l
}

// plain is a desk in the chapter's words.
type plain struct {
	tests  map[string]api.Test
	models map[string]api.Model
}

func newPlain() *plain {
	return &plain{tests: map[string]api.Test{}, models: map[string]api.Model{}}
}

// wrong is how a command is refused.
func wrong(e api.Errno) string { return fmt.Sprintf("! %d\n", e) }

// wrongBy is how a command is refused by an error with a place, or without.
func wrongBy(err error) string {
	switch x := err.(type) {
	case api.Errno:
		return wrong(x)
	case *api.PosError:
		return fmt.Sprintf("! %d %d %d\n", x.Err, x.Line, x.Col)
	}
	return fmt.Sprintf("what is this: %v\n", err)
}

// refusedFile is how a file is refused; empty, if it is not.
func refusedFile(b string) (api.Test, string) {
	if len(b) > api.MaxText {
		return api.Test{}, wrong(api.ErrLong)
	}
	x, err := litmus.Parse(b)
	if err != nil {
		return api.Test{}, wrongBy(err)
	}
	if w, e := prog.Check(x); e != api.OK {
		line, col, ok := litmus.Locate(b, w)
		if !ok {
			line, col = 1, 1
		}
		return api.Test{}, fmt.Sprintf("! %d %d %d\n", e, line, col)
	}
	return x, ""
}

var kinds = map[string]int{"SC": api.MSC, "TSO": api.MTSO, "PSO": api.MPSO}

// fullFinals is the final states of the full machine.
func fullFinals(t *testing.T, p api.Prog, kind int) []api.Final {
	t.Helper()
	m, e := reduce.Full(kind, p)
	if e != api.OK {
		t.Fatalf("Full(%d, %v): %d", kind, p, e)
	}
	l, _, e := explore.Explore(m, math.MaxInt)
	if e != api.OK {
		t.Fatalf("Explore: %d", e)
	}
	return l
}

// suiteLine is 28.2's line of a file that is not refused.
func suiteLine(t *testing.T, name string, x api.Test) string {
	t.Helper()
	p, _ := prog.Of(x)
	s := name
	for _, w := range []string{"SC", "TSO", "PSO"} {
		positive, negative, e := verdict.Count(x, fullFinals(t, p, kinds[w]))
		if e != api.OK {
			t.Fatalf("Count: %d", e)
		}
		ok := map[int]bool{api.Exists: positive > 0, api.NotExists: positive == 0, api.Forall: negative == 0}[x.Quant]
		s += " " + w + "=" + map[bool]string{true: "Ok", false: "No"}[ok]
	}
	return s + "\n"
}

// do is what a script tells.
func (d *plain) do(t *testing.T, script string) string {
	t.Helper()
	if len(script) > api.MaxText {
		return wrong(api.ErrLong)
	}
	out := ""
	for _, p := range pieces(script) {
		if len(p.words) > 0 && p.words[0][0] != '#' {
			out += d.play(t, p)
		}
	}
	return out
}

// play is what one command tells.
func (d *plain) play(t *testing.T, p piece) string {
	t.Helper()
	var form []string
	for s := range strings.SplitSeq(forms, "\n") {
		if f := strings.Fields(s); f[0] == p.words[0] {
			form = f
		}
	}
	if form == nil {
		return wrong(api.ErrCommand)
	}
	many := slices.Contains(form, "E") || slices.Contains(form, "P")
	if len(p.words) != len(form) && !(many && len(p.words) > len(form)) || p.has != slices.Contains(form, "<<") {
		return wrong(api.ErrWords)
	}
	for i, f := range form[1:] {
		w := p.words[i+1]
		if _, isKind := kinds[w]; strings.Contains("ABN", f) && !lexis.Name(w) || f == "K" && !isKind {
			return wrong(api.ErrWords)
		}
	}
	for i, f := range form[1:] {
		w := p.words[i+1]
		_, isTest := d.tests[w]
		_, isModel := d.models[w]
		switch command := form[0]; {
		case f != "A" && f != "B":
		case command == "copy" || command == "drop" || command == "show":
			if !isTest && !isModel {
				return wrong(api.ErrNone)
			}
		case command == "allow" && f == "B":
			if !isModel {
				return wrong(api.ErrNone)
			}
		case !isTest:
			return wrong(api.ErrNone)
		}
	}
	switch form[0] {
	case "items", "table", "show", "drop", "same":
		return d.look(t, p.words)
	case "play", "story":
		return d.replay(t, p.words)
	}
	if slices.Contains(form, "N") {
		return d.puts(t, p)
	}
	return d.ask(t, p.words)
}

// puts does a command that puts.
func (d *plain) puts(t *testing.T, p piece) string {
	t.Helper()
	var x api.Test
	var m api.Model
	isTest := true
	switch w := p.words; w[0] {
	case "test":
		var s string
		if x, s = refusedFile(p.block); s != "" {
			return s
		}
	case "cycle":
		var e api.Errno
		if x, e = cycle.Test(w[2:]); e != api.OK {
			return wrong(e)
		}
	case "form":
		var e api.Errno
		if x, _, e = canon.Form(d.tests[w[2]]); e != api.OK {
			return wrong(e)
		}
	case "copy":
		if x, isTest = d.tests[w[2]]; !isTest {
			m = d.models[w[2]]
		}
	case "model":
		isTest = false
		var err error
		if m, err = cat.Parse(p.block); err != nil {
			return wrongBy(err)
		}
	case "known":
		isTest = false
		s, _ := model.Text(kinds[w[2]])
		m, _ = cat.Parse(s)
	default:
		t.Fatalf("unknown: %v", w)
	}
	name := p.words[1]
	taken := slices.Concat(slices.Collect(maps.Keys(d.tests)), slices.Collect(maps.Keys(d.models)))
	if !slices.Contains(taken, name) && len(taken) == 64 {
		return wrong(api.ErrLong)
	}
	delete(d.tests, name)
	delete(d.models, name)
	if isTest {
		d.tests[name] = x
	} else {
		d.models[name] = m
	}
	return ""
}

// look does a command that asks for items as they are.
func (d *plain) look(t *testing.T, w []string) string {
	t.Helper()
	out := ""
	switch w[0] {
	case "items":
		sorts := map[string]string{}
		for s := range d.tests {
			sorts[s] = "test"
		}
		for s := range d.models {
			sorts[s] = "model"
		}
		for _, s := range slices.Sorted(maps.Keys(sorts)) {
			out += s + " " + sorts[s] + "\n"
		}
	case "table":
		for _, s := range slices.Sorted(maps.Keys(d.tests)) {
			out += suiteLine(t, s, d.tests[s])
		}
	case "show":
		var e api.Errno
		if x, ok := d.tests[w[1]]; ok {
			out, e = print.Text(x)
		} else {
			out, e = cat.Text(d.models[w[1]])
		}
		if e != api.OK {
			return wrong(e)
		}
	case "drop":
		delete(d.tests, w[1])
		delete(d.models, w[1])
	case "same":
		a, _, e := canon.Form(d.tests[w[1]])
		b, _, e2 := canon.Form(d.tests[w[2]])
		if e != api.OK || e2 != api.OK {
			return wrong(max(e, e2)) // there is but one such error
		}
		return map[bool]string{true: "yes\n", false: "no\n"}[textOf(t, a) == textOf(t, b)]
	}
	return out
}

// replay does play and story, pick by pick.
func (d *plain) replay(t *testing.T, w []string) string {
	t.Helper()
	p, _ := prog.Of(d.tests[w[1]])
	l, err := script.Parse(strings.Join(w[3:], " "))
	if err != nil {
		return wrongBy(err)
	}
	m, _ := reduce.Full(kinds[w[2]], p)
	now := m.Start
	var taken []api.Pick
	for _, k := range l {
		if next, ok := m.Step(now, k); ok {
			now = next
			taken = append(taken, k)
		}
	}
	if w[0] == "story" {
		s, e := witness.Story(kinds[w[2]], p, taken)
		if e != api.OK {
			t.Fatalf("Story: %d", e)
		}
		return s
	}
	f, ok := m.End(now)
	if !ok {
		return fmt.Sprintf("%d %d\nunfinished\n", len(taken), len(l))
	}
	return fmt.Sprintf("%d %d\n%s\n", len(taken), len(l), finalText(t, p, f))
}

func finalText(t *testing.T, p api.Prog, f api.Final) string {
	t.Helper()
	s, e := state.Text(f, prog.Names(p))
	if e != api.OK {
		t.Fatalf("Text of %v: %d", f, e)
	}
	return s
}

func reported(t *testing.T, x api.Test, l []api.Final) string {
	t.Helper()
	s, e := verdict.Report(x, l)
	if e != api.OK {
		t.Fatalf("Report: %d", e)
	}
	return s
}

// ask does a command that asks an engine.
func (d *plain) ask(t *testing.T, w []string) string {
	t.Helper()
	x := d.tests[w[1]]
	p, e := prog.Of(x)
	if e != api.OK {
		t.Fatalf("Of: %d", e)
	}
	kind := kinds[w[len(w)-1]]
	switch w[0] {
	case "run":
		return reported(t, x, fullFinals(t, p, kind))
	case "allow":
		it, _ := allow.Each(d.models[w[2]], p)
		var l []api.Final
		for c := range it {
			f, _ := cand.End(p, c)
			l = append(l, f)
		}
		return reported(t, x, state.Sort(l))
	case "size":
		m, _ := reduce.Lean(kind, p)
		_, n, _ := explore.Explore(m, math.MaxInt)
		return fmt.Sprintln(n.States, n.Moves, n.Ends)
	case "shows":
		return shown(t, x, p, kind)
	case "why":
		return whyNot(t, x, p, kind)
	case "robust":
		return map[bool]string{true: "yes\n", false: "no\n"}[slices.Equal(fullFinals(t, p, api.MSC), fullFinals(t, p, api.MTSO))]
	case "fences":
		return fences(p)
	}
	t.Fatalf("unknown: %v", w)
	return ""
}

func shown(t *testing.T, x api.Test, p api.Prog, kind int) string {
	t.Helper()
	for _, f := range fullFinals(t, p, kind) {
		if ok, _ := verdict.Holds(x, f); !ok {
			continue
		}
		l, e := witness.Schedule(kind, p, f)
		c, e2 := witness.Execution(kind, p, f)
		if e != api.OK || e2 != api.OK {
			t.Fatalf("Schedule: %d, Execution: %d", e, e2)
		}
		s, _ := script.Text(l)
		text, _ := witness.Text(p, c)
		return finalText(t, p, f) + "\n" + s + "\n" + text
	}
	return "never\n"
}

func whyNot(t *testing.T, x api.Test, p api.Prog, kind int) string {
	t.Helper()
	it, _ := cand.All(p)
	for c := range it {
		f, _ := cand.End(p, c)
		holds, e := verdict.Holds(x, f)
		broken, e2 := axiom.Why(kind, c)
		if e != api.OK || e2 != api.OK {
			t.Fatalf("Holds: %d, Why: %d", e, e2)
		}
		if holds && len(broken) > 0 {
			s, _ := axiom.Explain(p, kind, c)
			return s
		}
	}
	return "never\n"
}

func fences(p api.Prog) string {
	slots, _ := robust.Slots(p)
	it, _ := robust.Least(p)
	out, n := "", 0
	for s := range it {
		if n++; n > 50 {
			break
		}
		var l []string
		for i, w := range slots {
			if s>>i&1 == 1 {
				l = append(l, fmt.Sprintf("%d:%d", w.I, w.K))
			}
		}
		if len(l) == 0 {
			l = []string{"none"}
		}
		out += strings.Join(l, " ") + "\n"
	}
	return out
}
