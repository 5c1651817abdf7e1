package cat

import "weir/api"

// Inline is a model without lets: what a name stands for stands in its place.
func Inline(m api.Model) (api.Model, api.Errno) {
	if _, err := Check(m); err != api.OK {
		return api.Model{}, err
	}
	out := api.Model{Name: m.Name}
	lets := map[string][]api.Term{}
	for _, r := range m.Rules {
		terms := filled(r.Terms, lets)
		if r.Kind == api.RLet {
			lets[r.Name] = terms
			continue
		}
		out.Rules = append(out.Rules, api.Rule{Kind: r.Kind, Name: r.Name, Terms: terms})
	}
	// Too many nodes come first in Check too: it never looks at a term that is broken off.
	if _, err := Check(out); err != api.OK {
		return api.Model{}, err
	}
	return out, api.OK
}

// filled is a term in which what is let stands in the place of names. Lets that double each other grow beyond all bounds: a term is broken off as soon as it alone has too many nodes.
func filled(l []api.Term, lets map[string][]api.Term) []api.Term {
	var out []api.Term
	place := make([]int, len(l)) // of each node where it has come to stand
	for i, n := range l {
		// Nodes that are no names have no Name, and that is let by none.
		if let, ok := lets[n.Name]; ok {
			out = appendShifted(out, let)
		} else {
			out = append(out, moved(n, func(part int) int { return place[part] }))
		}
		if len(out) > api.MaxNodes {
			return out[:api.MaxNodes+1]
		}
		place[i] = len(out) - 1
	}
	return out
}

// appendShifted puts a whole term behind other nodes.
func appendShifted(out, term []api.Term) []api.Term {
	begin := len(out)
	for _, n := range term {
		out = append(out, moved(n, func(part int) int { return begin + part }))
	}
	return out
}

// moved is a node whose parts have come to stand elsewhere.
func moved(n api.Term, to func(part int) int) api.Term {
	if operators[n.Op].parts > 0 {
		n.A = to(n.A)
	}
	if operators[n.Op].parts > 1 {
		n.B = to(n.B)
	}
	return n
}
