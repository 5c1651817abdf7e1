package desk

import (
	"math"

	"weir/api"
	"weir/litmus"
	"weir/prog"
	"weir/reduce"
	"weir/verdict"
)

// testOf is the test of a file, or the error by which the file is refused.
func testOf(file string) (api.Test, error) {
	t, err := litmus.Parse(file) // that a file is too long, it says ahead of all else
	if err != nil {
		return api.Test{}, err
	}
	if w, e := prog.Check(t); e != api.OK {
		line, col, ok := litmus.Locate(file, w)
		if !ok {
			line, col = 1, 1
		}
		return api.Test{}, &api.PosError{Line: line, Col: col, Err: e}
	}
	return t, nil
}

// programOf is the program of a test that has been looked over, as all have that lie on a desk.
func programOf(t api.Test) api.Prog {
	p, _ := prog.Of(t)
	return p
}

// finalsOf is all final states of such a test by a model's machine, and how much there was.
func finalsOf(t api.Test, kind int) ([]api.Final, api.Tally) {
	l, tally, _ := reduce.Finals(kind, programOf(t), math.MaxInt)
	return l, tally
}

// modelWord is a word, and the model for which it stands.
type modelWord struct {
	word string
	kind int
}

// modelWords is all of them, in the order in which verdicts are told.
func modelWords() []modelWord {
	return []modelWord{{"SC", api.MSC}, {"TSO", api.MTSO}, {"PSO", api.MPSO}}
}

// kindOf is the model of a word.
func kindOf(word string) (int, bool) {
	for _, m := range modelWords() {
		if m.word == word {
			return m.kind, true
		}
	}
	return 0, false
}

// verdicts is the line of a test by the three models.
func verdicts(name string, t api.Test) string {
	words := []string{name}
	for _, m := range modelWords() {
		l, _ := finalsOf(t, m.kind)
		answer := "No"
		if ok, _ := verdict.Ok(t, l); ok {
			answer = "Ok"
		}
		words = append(words, m.word+"="+answer)
	}
	return line(words...)
}
