package axiom

import (
	"slices"
	"strings"

	"weir/api"
	"weir/event"
)

// Explain is a text of the axioms that do not hold.
func Explain(p api.Prog, model int, x api.Exec) (string, api.Errno) {
	r, e := rowOf(model)
	if e != api.OK {
		return "", e
	}
	broken, e := Why(model, x)
	if e != api.OK {
		return "", e
	}
	var b strings.Builder
	for _, k := range broken {
		switch k.Axiom {
		case api.AUniproc:
			b.WriteString("uniproc: " + roundText(p, x, uniprocParts(x), k.Round))
		case api.AAtomic:
			b.WriteString("atomic: " + wayText(p, x, k.Round, []string{"fr", "co"}))
		case api.AGlobal:
			b.WriteString("global: " + roundText(p, x, r.parts(x), k.Round))
		}
		b.WriteString("\n")
	}
	return b.String(), api.OK
}

// roundText is the text of a round, each arrow by the first part that has it.
func roundText(p api.Prog, x api.Exec, parts []part, round []int) string {
	var names []string
	way := slices.Concat(round, round[:1])
	for i, b := range way[1:] {
		names = append(names, nameOf(parts, way[i], b))
	}
	return wayText(p, x, way, names)
}

// wayText is the text of a way, whose arrows have these names.
func wayText(p api.Prog, x api.Exec, way []int, names []string) string {
	var b strings.Builder
	for i, at := range way {
		if i > 0 {
			b.WriteString(" -" + names[i-1] + "-> ")
		}
		b.WriteString(event.Text(p, x.Events[at]))
	}
	return b.String()
}
