package hist

import (
	"strings"

	"weir/api"
	"weir/cond"
	"weir/word"
)

// Lines of a log ahead of its rows and behind them; what stands behind the last line feed is one more, which is empty.
const (
	linesAhead  = 2
	linesBehind = 7
	condFromEnd = 3
)

// read is the only histogram whose log a text may be, and how many blanks it has behind each row's count; false: it is none. Whether it is, shows when the log is written again.
func read(s string) (api.Hist, []int, bool) {
	lines := strings.Split(s, "\n")
	if len(lines) < linesAhead+linesBehind {
		return api.Hist{}, nil, false
	}
	var h api.Hist
	var ok bool
	if h.Name, h.Quant, ok = readTest(lines[0]); !ok {
		return api.Hist{}, nil, false
	}
	if h.Cond, ok = readCond(lines[len(lines)-condFromEnd], h.Quant); !ok {
		return api.Hist{}, nil, false
	}
	var gaps []int
	for i, line := range lines[linesAhead : len(lines)-linesBehind] {
		row, gap, refs, ok := readRow(line)
		if !ok {
			return api.Hist{}, nil, false
		}
		if i == 0 {
			h.Refs = refs
		}
		h.Rows = append(h.Rows, row)
		gaps = append(gaps, gap)
	}
	return h, gaps, true
}

// readTest is the name and the quantifier of a log's first line.
func readTest(line string) (string, int, bool) {
	words := strings.Split(line, " ")
	if len(words) != 3 {
		return "", 0, false
	}
	for quant := api.Exists; quant <= api.Forall; quant++ {
		if words[2] == demand(quant) {
			return words[1], quant, true
		}
	}
	return "", 0, false
}

// readCond is the condition of the line that tells whether it is validated.
func readCond(line string, quant int) (api.Cond, bool) {
	text, ok := strings.CutPrefix(line, "Condition "+quantifier(quant)+" ")
	if !ok {
		return nil, false
	}
	text, yes := strings.CutSuffix(text, " "+result(true))
	if !yes {
		text, ok = strings.CutSuffix(text, " "+result(false))
	}
	if !ok {
		return nil, false
	}
	c, err := cond.Parse(text)
	return c, err == nil
}

// readRow is a row, how many blanks it has behind its count, and what its values are of.
func readRow(line string) (api.Row, int, []api.Ref, bool) {
	behind := strings.TrimLeft(line, "0123456789")
	digits := line[:len(line)-len(behind)]
	text := strings.TrimLeft(behind, " ")
	gap := len(behind) - len(text)
	n, e := word.Parse(digits)
	if e != api.OK || len(text) < len(mark(true)) {
		return api.Row{}, 0, nil, false
	}
	f, refs, ok := readFinal(text[len(mark(true)):])
	return api.Row{Count: n, Final: f}, gap, refs, ok
}

// readFinal is the values of a final state's text, and what they are of.
func readFinal(text string) (api.Final, []api.Ref, bool) {
	if text == "" {
		return api.Final{}, nil, true
	}
	cells := strings.Split(text, " ")
	if len(cells) > api.MaxFinal {
		return api.Final{}, nil, false
	}
	f := api.Final{N: len(cells)}
	var refs []api.Ref
	for i, cell := range cells {
		name, number, _ := strings.Cut(cell, "=")
		r, ok := readRef(name)
		v, e := word.Parse(strings.TrimSuffix(number, ";"))
		if !ok || e != api.OK {
			return api.Final{}, nil, false
		}
		f.V[i] = v
		refs = append(refs, r)
	}
	return f, refs, true
}

func readRef(text string) (api.Ref, bool) {
	thread, name, register := strings.Cut(text, ":")
	if !register {
		return api.Ref{Thread: -1, Name: text}, true
	}
	n, e := word.Parse(thread)
	return api.Ref{Thread: int(n), Name: name}, e == api.OK
}
