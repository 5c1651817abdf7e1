package model_test

import (
	"slices"
	"strings"

	"weir/api"
	"weir/rel"
)

// thing is what a term stands for, in the chapter's words: whether a pair stands in it, or, of a set (which has no pairs), whether an event does.
type thing struct {
	pair   func(a, b int) bool
	member func(a int) bool
}

// world is an execution, and what was let.
type world struct {
	x    api.Exec
	n    int
	lets map[string]thing
}

func worldOf(x api.Exec) world {
	n := len(x.Events)
	if n > 64 {
		n = 0
	}
	return world{x, n, map[string]thing{}}
}

// laid is the same thing, asked once of all.
func (w world) laid(t thing) thing {
	if t.pair == nil {
		l := make([]bool, w.n)
		for a := range w.n {
			l[a] = t.member(a)
		}
		return thing{member: func(a int) bool { return l[a] }}
	}
	g := make([][]bool, w.n)
	for a := range w.n {
		g[a] = make([]bool, w.n)
		for b := range w.n {
			g[a][b] = t.pair(a, b)
		}
	}
	return thing{pair: func(a, b int) bool { return g[a][b] }}
}

// value is the thing as package model must answer it.
func (w world) value(t thing) api.Value {
	if t.pair == nil {
		v := api.Value{Sort: 2}
		for a := range w.n {
			if t.member(a) {
				v.Set |= 1 << a
			}
		}
		return v
	}
	v := api.Value{Sort: 1, Rel: api.Rel{N: w.n}}
	for a := range w.n {
		for b := range w.n {
			if t.pair(a, b) {
				v.Rel.Rows[a] |= 1 << b
			}
		}
	}
	return v
}

// some tells whether something is so of one event at least.
func (w world) some(is func(c int) bool) bool {
	return slices.ContainsFunc(slices.Collect(w.places()), is)
}

func (w world) places() func(yield func(int) bool) {
	return func(yield func(int) bool) {
		for a := range w.n {
			if !yield(a) {
				return
			}
		}
	}
}

// start is what a name stands for from the start.
func (w world) start(name string) thing {
	l := w.x.Events
	kind := func(kinds ...int) thing {
		return thing{member: func(a int) bool { return slices.Contains(kinds, l[a].Kind) }}
	}
	switch name {
	case "IW":
		return kind(1)
	case "W":
		return kind(1, 2)
	case "R":
		return kind(3)
	case "M":
		return kind(1, 2, 3)
	case "F":
		return kind(4)
	case "L":
		return thing{member: func(a int) bool { return l[a].Locked }}
	case "_":
		return thing{member: func(int) bool { return true }}
	}
	return w.laid(thing{pair: w.stands(name)})
}

// stands is the relation that has a name from the start.
func (w world) stands(name string) func(a, b int) bool {
	x, l := w.x, w.x.Events
	memory := w.start("M").member
	together := func(a, b int) bool { return l[a].Thread == l[b].Thread && l[a].Thread != -1 }
	switch name {
	case "po":
		return func(a, b int) bool { return a < b && together(a, b) }
	case "loc":
		return func(a, b int) bool { return memory(a) && memory(b) && l[a].Loc == l[b].Loc }
	case "int":
		return together
	case "ext":
		return func(a, b int) bool { return !together(a, b) }
	case "id":
		return func(a, b int) bool { return a == b }
	case "rmw":
		return func(a, b int) bool {
			return a < b && together(a, b) && l[a].Index == l[b].Index && l[a].Locked && l[b].Locked && l[a].Kind == 3 && l[b].Kind != 3 && memory(b)
		}
	case "rf":
		return func(a, b int) bool { return b < len(x.From) && x.From[b] == a }
	case "co":
		return func(a, b int) bool { return ahead(x.Order, a, b) }
	case "fr":
		rf, co := w.start("rf").pair, w.start("co").pair
		return func(a, b int) bool { return a != b && w.some(func(c int) bool { return rf(c, a) && co(c, b) }) }
	}
	of := w.start(name[:2]).pair
	return func(a, b int) bool { return of(a, b) && together(a, b) == (name[2] == 'i') }
}

// ahead tells whether in one of some lists a stands ahead of b.
func ahead(lists [][]int, a, b int) bool {
	for _, l := range lists {
		for i, c := range l {
			if c == a && slices.Contains(l[i+1:], b) {
				return true
			}
		}
	}
	return false
}

// term is what a term stands for.
func (w world) term(l []api.Term) thing {
	var made []thing
	for _, n := range l {
		var a, b thing
		if len(made) > 0 {
			a, b = made[n.A], made[n.B]
		}
		t, let := w.lets[n.Name]
		if n.Op != api.XName {
			t = w.node(n.Op, a, b)
		} else if !let {
			t = w.start(n.Name)
		}
		made = append(made, w.laid(t))
	}
	return made[len(made)-1]
}

// node is what a node stands for that is no name.
func (w world) node(op int, a, b thing) thing {
	// joined is a and b, pair by pair or member by member.
	joined := func(is func(p, q bool) bool) thing {
		if a.pair == nil {
			return thing{member: func(c int) bool { return is(a.member(c), b.member(c)) }}
		}
		return thing{pair: func(c, d int) bool { return is(a.pair(c, d), b.pair(c, d)) }}
	}
	pairs := func(is func(c, d int) bool) thing { return thing{pair: is} }
	switch op {
	case api.XZero:
		return pairs(func(int, int) bool { return false })
	case api.XUnion:
		return joined(func(p, q bool) bool { return p || q })
	case api.XMeet:
		return joined(func(p, q bool) bool { return p && q })
	case api.XMinus:
		return joined(func(p, q bool) bool { return p && !q })
	case api.XNot:
		b = a
		return joined(func(p, _ bool) bool { return !p })
	case api.XSeq:
		return pairs(func(c, d int) bool { return w.some(func(e int) bool { return a.pair(c, e) && b.pair(e, d) }) })
	case api.XCross:
		return pairs(func(c, d int) bool { return a.member(c) && b.member(d) })
	case api.XInv:
		return pairs(func(c, d int) bool { return a.pair(d, c) })
	case api.XOpt:
		return pairs(func(c, d int) bool { return c == d || a.pair(c, d) })
	case api.XOn:
		return pairs(func(c, d int) bool { return c == d && a.member(c) })
	}
	far := make([]map[int]bool, w.n) // whom ways lead to
	for c := range w.n {
		far[c] = w.reached(a, c)
	}
	return pairs(func(c, d int) bool { return op == api.XStar && c == d || far[c][d] })
}

// reached is to whom ways of one step or more lead.
func (w world) reached(t thing, from int) map[int]bool {
	seen, work := map[int]bool{}, []int{from}
	for len(work) > 0 {
		a := work[0]
		work = work[1:]
		for b := range w.n {
			if t.pair(a, b) && !seen[b] {
				seen[b] = true
				work = append(work, b)
			}
		}
	}
	return seen
}

// eval is what the rules stand for, and which checks do not hold.
func (w world) eval(m api.Model) ([]api.Value, []api.Broken) {
	var l []api.Value
	var broken []api.Broken
	for i, r := range m.Rules {
		t := w.term(r.Terms)
		l = append(l, w.value(t))
		if r.Kind == api.RLet {
			w.lets[r.Name] = t
		} else if round := w.round(r.Kind, t); round != nil {
			broken = append(broken, api.Broken{Axiom: i, Round: round})
		}
	}
	return l, broken
}

// round is what shows that a check does not hold; nil: it holds.
func (w world) round(kind int, t thing) []int {
	for a := range w.n {
		switch {
		case kind == api.RAcyclic && w.reached(t, a)[a]:
			l, _ := rel.Cycle(w.value(t).Rel)
			return l
		case kind == api.RIrreflexive && t.pair(a, a), kind == api.REmpty && t.pair == nil && t.member(a):
			return []int{a}
		case kind == api.REmpty && t.pair != nil:
			for b := range w.n {
				if t.pair(a, b) {
					return []int{a, b}
				}
			}
		}
	}
	return nil
}

// sameBroken tells whether two lists of broken checks are alike.
func sameBroken(a, b []api.Broken) bool {
	return slices.EqualFunc(a, b, func(x, y api.Broken) bool { return x.Axiom == y.Axiom && slices.Equal(x.Round, y.Round) })
}

// tsoLike is the text of a model in which writes may wait.
func tsoLike(name, ppo, last string) string {
	return strings.Join([]string{name, "let com = rf | co | fr", "acyclic po & loc | com as uniproc", "empty rmw & (fr ; co) as atomic", "let ppo = " + ppo, "let fence = po ; [F] ; po", "let implied = po & M * M & (L * _ | _ * L)", "acyclic ppo | fence | implied | rfe | co | fr as " + last, ""}, "\n")
}
