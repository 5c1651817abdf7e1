package lexis

import "strings"

// spot is the line and the column of a place.
type spot struct {
	line, col int
}

// front is where texts begin.
func front() spot { return spot{line: 1, col: 1} }

// behind is the spot behind a text that stands at this one.
func (p spot) behind(s string) spot {
	last := strings.LastIndexByte(s, '\n')
	if last < 0 {
		return spot{line: p.line, col: p.col + len(s)}
	}
	return spot{line: p.line + strings.Count(s, "\n"), col: len(s) - last}
}
