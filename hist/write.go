package hist

import (
	"strings"

	"weir/api"
	"weir/cond"
	"weir/state"
	"weir/word"
)

// column is how many bytes a row's count and the blanks behind it take, if there is room.
const column = 6

// straight is how many blanks stand behind each row's count, so that the marks stand in one column.
func straight(l []api.Row) []int {
	var gaps []int
	for _, r := range l {
		gaps = append(gaps, max(0, column-len(word.Text(r.Count))))
	}
	return gaps
}

// write is the log of a right histogram, with so many blanks behind each row's count; false: it has more than so many bytes. Rows' texts take far more room than rows: it gives up as soon as they are too long.
func write(h api.Hist, gaps []int, most int) (string, bool) {
	var out strings.Builder
	line := func(words ...string) {
		out.WriteString(strings.Join(words, " "))
		out.WriteByte('\n')
	}
	line("Test", h.Name, demand(h.Quant))
	line("Histogram", "("+word.Text(int64(len(h.Rows))), "states)")
	holds := asker(h)
	for i, r := range h.Rows {
		text, _ := state.Text(r.Final, h.Refs)
		line(word.Text(r.Count) + strings.Repeat(" ", gaps[i]) + mark(holds(r.Final)) + text)
		if out.Len() > most {
			return "", false
		}
	}
	positive, negative := count(h)
	ok := validated(h.Quant, positive, negative)
	line(answer(ok))
	line()
	line("Witnesses")
	line("Positive:", word.Text(positive)+",", "Negative:", word.Text(negative))
	question, _ := cond.Text(h.Cond)
	line("Condition", quantifier(h.Quant), question, result(ok))
	line("Observation", h.Name, often(positive, negative), word.Text(positive), word.Text(negative))
	return out.String(), out.Len() <= most
}

// demand is what a quantifier asks of its condition.
func demand(quant int) string {
	switch quant {
	case api.Exists:
		return "Allowed"
	case api.NotExists:
		return "Forbidden"
	}
	return "Required"
}

// quantifier is a quantifier as litmus files have it.
func quantifier(quant int) string {
	switch quant {
	case api.Exists:
		return "exists"
	case api.NotExists:
		return "~exists"
	}
	return "forall"
}

func mark(holds bool) string {
	if holds {
		return "*>"
	}
	return ":>"
}

// validated tells whether a question is answered with yes, by how often its condition held, and how often not.
func validated(quant int, positive, negative int64) bool {
	switch quant {
	case api.Exists:
		return positive != 0
	case api.NotExists:
		return positive == 0
	}
	return negative == 0
}

func answer(ok bool) string {
	if ok {
		return "Ok"
	}
	return "No"
}

func result(ok bool) string {
	if ok {
		return "is validated"
	}
	return "is NOT validated"
}

// often is how often the condition was met. Where nothing was seen it was never met, though also each time.
func often(positive, negative int64) string {
	switch {
	case positive == 0:
		return "Never"
	case negative == 0:
		return "Always"
	}
	return "Sometimes"
}
