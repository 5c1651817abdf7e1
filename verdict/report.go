package verdict

import (
	"strings"

	"weir/api"
	"weir/cond"
	"weir/state"
	"weir/word"
)

// Report is a set's report.
func Report(t api.Test, l []api.Final) (string, api.Errno) {
	positive, negative, e := Count(t, l)
	if e != api.OK {
		return "", e
	}
	refs, seen, _ := Seen(t, l) // it refuses what Count refuses
	var out strings.Builder
	line := func(words ...string) {
		out.WriteString(strings.Join(words, " "))
		out.WriteByte('\n')
	}
	line("Test", t.Name, demand(t.Quant))
	line("States", number(len(seen)))
	for _, f := range seen {
		text, _ := state.Text(f, refs)
		line(text)
	}
	line(answer(fulfilled(t.Quant, positive, negative)))
	line("Witnesses")
	line("Positive:", number(positive), "Negative:", number(negative))
	question, _ := cond.Text(t.Cond)
	line("Condition", quantifier(t.Quant), question)
	line("Observation", t.Name, often(positive, negative), number(positive), number(negative))
	return out.String(), api.OK
}

func number(n int) string { return word.Text(int64(n)) }

// demand is what a quantifier asks of its condition.
func demand(quant int) string {
	switch quant {
	case api.Exists:
		return "Allowed"
	case api.NotExists:
		return "Forbidden"
	}
	return "Required"
}

// quantifier is a quantifier as litmus files have it.
func quantifier(quant int) string {
	switch quant {
	case api.Exists:
		return "exists"
	case api.NotExists:
		return "~exists"
	}
	return "forall"
}

func answer(ok bool) string {
	if ok {
		return "Ok"
	}
	return "No"
}

// often is in how many final states the condition was met. Of no final states it was never met, though also in all.
func often(positive, negative int) string {
	switch {
	case positive == 0:
		return "Never"
	case negative == 0:
		return "Always"
	}
	return "Sometimes"
}
