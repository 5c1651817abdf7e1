package desk

import (
	"strconv"
	"strings"

	"weir/allow"
	"weir/api"
	"weir/axiom"
	"weir/cand"
	"weir/canon"
	"weir/prog"
	"weir/reduce"
	"weir/robust"
	"weir/script"
	"weir/sets"
	"weir/state"
	"weir/verdict"
	"weir/witness"
)

// mostFences is how many sets of fences are told.
const mostFences = 50

func (d *Desk) same(g given) (string, error) { return yesOrNo(canon.Same(g.tests[0], g.tests[1])) }

func (d *Desk) run(g given) (string, error) {
	l, _ := finalsOf(g.tests[0], g.kind)
	return told(verdict.Report(g.tests[0], l))
}

func (d *Desk) allow(g given) (string, error) {
	l, e := allow.Finals(g.model, programOf(g.tests[0]))
	if e != api.OK {
		return "", e
	}
	return told(verdict.Report(g.tests[0], l))
}

func (d *Desk) size(g given) (string, error) {
	_, n := finalsOf(g.tests[0], g.kind)
	return line(strconv.Itoa(n.States), strconv.Itoa(n.Moves), strconv.Itoa(n.Ends)), nil
}

func (d *Desk) shows(g given) (string, error) {
	t, p := g.tests[0], programOf(g.tests[0])
	l, _ := finalsOf(t, g.kind)
	with, _, _ := verdict.Split(t, l)
	if len(with) == 0 {
		return line("never"), nil
	}
	f := with[0]
	// The machine comes to f, so that both roads lead there.
	picks, _ := witness.Schedule(g.kind, p, f)
	words, e := script.Text(picks)
	if e != api.OK {
		return "", e
	}
	x, _ := witness.Execution(g.kind, p, f)
	text, _ := witness.Text(p, x)
	return line(finalText(p, f)) + line(words) + text, nil
}

func (d *Desk) play(g given) (string, error) {
	picks, m, err := scripted(g)
	if err != nil {
		return "", err
	}
	taken := script.Taken(m, picks)
	end := "unfinished"
	if f, ok := script.Outcome(m, picks); ok {
		end = finalText(programOf(g.tests[0]), f)
	}
	return line(strconv.Itoa(len(taken)), strconv.Itoa(len(picks))) + line(end), nil
}

func (d *Desk) story(g given) (string, error) {
	picks, m, err := scripted(g)
	if err != nil {
		return "", err
	}
	return told(witness.Story(g.kind, programOf(g.tests[0]), script.Taken(m, picks)))
}

func (d *Desk) why(g given) (string, error) {
	t, p := g.tests[0], programOf(g.tests[0])
	all, e := cand.All(p)
	if e != api.OK {
		return "", e
	}
	for x := range all {
		if obeys, _ := axiom.Holds(g.kind, x); obeys {
			continue
		}
		f, _ := cand.End(p, x)
		if holds, _ := verdict.Holds(t, f); holds {
			return told(axiom.Explain(p, g.kind, x))
		}
	}
	return line("never"), nil
}

func (d *Desk) robust(g given) (string, error) {
	return yesOrNo(robust.Robust(programOf(g.tests[0])))
}

func (d *Desk) fences(g given) (string, error) {
	p := programOf(g.tests[0])
	slots, _ := robust.Slots(p)
	least, e := robust.Least(p)
	if e != api.OK {
		return "", e
	}
	var out strings.Builder
	n := 0
	for s := range least {
		out.WriteString(line(fenceWords(slots, s)...))
		if n++; n == mostFences { // here, as going on would look for one more
			break
		}
	}
	return out.String(), nil
}

// fenceWords is the slots of a set.
func fenceWords(slots []api.Where, s api.Set) []string {
	var words []string
	for i := range sets.Each(s) {
		words = append(words, strconv.Itoa(slots[i].I)+":"+strconv.Itoa(slots[i].K))
	}
	if len(words) == 0 {
		return []string{"none"}
	}
	return words
}

// scripted is the script that a command's words are, and the machine that is to play it.
func scripted(g given) ([]api.Pick, api.Machine, error) {
	picks, err := script.Parse(strings.Join(g.words, " "))
	if err != nil {
		return nil, api.Machine{}, err
	}
	m, e := reduce.Full(g.kind, programOf(g.tests[0]))
	if e != api.OK {
		return nil, api.Machine{}, e
	}
	return picks, m, nil
}

// finalText is a final state of a program with its names.
func finalText(p api.Prog, f api.Final) string {
	text, _ := state.Text(f, prog.Names(p))
	return text
}
