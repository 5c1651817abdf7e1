package cat

import (
	"strings"

	"weir/api"
)

// ruleText is a rule's line, without its line feed.
func ruleText(r api.Rule) string {
	word := kinds[r.Kind] + " "
	if r.Kind == api.RLet {
		return word + r.Name + " = " + termText(r.Terms)
	}
	if r.Name == "" {
		return word + termText(r.Terms)
	}
	return word + termText(r.Terms) + " " + namer + " " + r.Name
}

func termText(l []api.Term) string {
	var out strings.Builder
	var put func(i int)
	part := func(i, of int) {
		if !bracketed(l, i, of) {
			put(i)
			return
		}
		out.WriteByte('(')
		put(i)
		out.WriteByte(')')
	}
	put = func(i int) {
		n := l[i]
		row := operators[n.Op]
		switch {
		case n.Op == api.XName:
			out.WriteString(n.Name)
		case n.Op == api.XZero:
			out.WriteString(row.sign)
		case n.Op == api.XNot:
			out.WriteString(row.sign)
			part(n.A, i)
		case n.Op == api.XOn:
			out.WriteByte('[')
			part(n.A, i)
			out.WriteByte(']')
		case row.parts == 1:
			part(n.A, i)
			out.WriteString(row.sign)
		default:
			part(n.A, i)
			out.WriteString(" " + row.sign + " ")
			part(n.B, i)
		}
	}
	put(len(l) - 1)
	return out.String()
}

// bracketed tells whether the text has round brackets around a part of a node.
func bracketed(l []api.Term, part, of int) bool {
	n := l[of]
	if n.Op == api.XOn {
		return false
	}
	inner, outer := operators[l[part].Op].binds, operators[n.Op].binds
	second := operators[n.Op].parts == 2 && part == n.B
	return inner < outer || inner == outer && second
}
