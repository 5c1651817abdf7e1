package event

import (
	"strconv"
	"strings"

	"weir/api"
	"weir/rel"
	"weir/word"
)

// Text is an event's text.
func Text(p api.Prog, e api.Event) string {
	s := "i:" + locText(p, e.Loc)
	if e.Kind != api.EInit {
		s = strconv.Itoa(e.Thread) + ":" + strconv.Itoa(e.Index) + ":" + kindText(p, e)
	}
	if e.Locked {
		s += "*"
	}
	return s
}

// kindText is what an event that is no initial write does, and to which location.
func kindText(p api.Prog, e api.Event) string {
	switch e.Kind {
	case api.ERead:
		return "R" + locText(p, e.Loc)
	case api.EWrite:
		return "W" + locText(p, e.Loc)
	case api.EFence:
		return "F"
	}
	return "?"
}

func locText(p api.Prog, loc int) string {
	if !isPlace(loc, len(p.Locs)) {
		return "?"
	}
	return p.Locs[loc]
}

// Dot is an execution as a graph's text.
func Dot(p api.Prog, x api.Exec) string {
	var b strings.Builder
	b.WriteString("digraph weir {\n")
	memory := Memory(x.Events)
	for i, e := range known(x.Events) {
		text := Text(p, e)
		if memory>>i&1 == 1 && i < len(x.Values) {
			text += "=" + word.Text(x.Values[i])
		}
		b.WriteString(nodeText(i) + labelText(text))
	}
	putArrows(&b, "po", direct(Po(x.Events)))
	putArrows(&b, "rf", Rf(x))
	putArrows(&b, "co", direct(Co(x)))
	putArrows(&b, "fr", Fr(x))
	b.WriteString("}\n")
	return b.String()
}

func nodeText(i int) string { return "e" + strconv.Itoa(i) }

// labelText is what ends a line.
func labelText(s string) string { return ` [label="` + s + `"]` + "\n" }

func putArrows(b *strings.Builder, name string, r api.Rel) {
	for e := range rel.Edges(r) {
		b.WriteString(nodeText(e.A) + " -> " + nodeText(e.B) + labelText(name))
	}
}

// direct is the pairs without an event between. (rel.Reduce asks for a relation that goes in no circle, which an order of writes may do.)
func direct(r api.Rel) api.Rel { return rel.Minus(r, rel.Compose(r, r)) }
