package axiom_test

import (
	"slices"
	"strings"

	"weir/api"
	"weir/event"
	"weir/rel"
)

// grid is a relation, pair by pair.
type grid [64][64]bool

// words is the relations of an execution in the chapter's words, by their names; "po by uniproc", "po by x86-TSO" and "po by PSO" are what these keep of po.
type words struct {
	x api.Exec
	n int
	r map[string]*grid
}

// say lays a relation down.
func (w words) say(name string, is func(a, b int) bool) {
	g := &grid{}
	for a := range w.n {
		for b := range w.n {
			g[a][b] = is(a, b)
		}
	}
	w.r[name] = g
}

func wordsOf(x api.Exec) words {
	w := words{x: x, n: len(x.Events), r: map[string]*grid{}}
	if w.n > 64 {
		w.n = 0
	}
	l := x.Events
	write := func(a int) bool { return l[a].Kind == 1 || l[a].Kind == 2 }
	read := func(a int) bool { return l[a].Kind == 3 }
	memory := func(a int) bool { return write(a) || read(a) }
	together := func(a, b int) bool { return l[a].Thread == l[b].Thread && l[a].Thread != -1 }
	po := func(a, b int) bool { return a < b && together(a, b) }
	w.say("po", po)
	w.say("po by uniproc", func(a, b int) bool { return po(a, b) && memory(a) && memory(b) && l[a].Loc == l[b].Loc })
	w.say("po by x86-TSO", func(a, b int) bool { return po(a, b) && memory(a) && memory(b) && !(write(a) && read(b)) })
	w.say("po by PSO", func(a, b int) bool { return po(a, b) && read(a) && memory(b) })
	w.say("fence", func(a, b int) bool {
		for f := range w.n {
			if l[f].Kind == 4 && po(a, f) && po(f, b) {
				return true
			}
		}
		return false
	})
	w.say("lock", func(a, b int) bool { return po(a, b) && memory(a) && memory(b) && (l[a].Locked || l[b].Locked) })
	w.say("rmw", func(a, b int) bool {
		return po(a, b) && l[a].Index == l[b].Index && l[a].Locked && l[b].Locked && read(a) && write(b)
	})
	w.say("rf", func(a, b int) bool { return b < len(x.From) && x.From[b] == a })
	w.say("co", func(a, b int) bool { return ahead(x.Order, a, b) })
	rf, co := w.r["rf"], w.r["co"]
	w.say("fr", func(a, b int) bool {
		for c := range w.n {
			if a != b && rf[c][a] && co[c][b] {
				return true
			}
		}
		return false
	})
	for _, name := range []string{"rf", "co", "fr"} {
		g := w.r[name]
		w.say(name+"e", func(a, b int) bool { return g[a][b] && !together(a, b) })
		w.say(name+"i", func(a, b int) bool { return g[a][b] && together(a, b) })
	}
	return w
}

// ahead tells whether in one of some lists a stands ahead of b.
func ahead(lists [][]int, a, b int) bool {
	for _, l := range lists {
		first, last := slices.Index(l, a), -1
		for i, c := range l {
			if c == b {
				last = i
			}
		}
		if first >= 0 && first < last {
			return true
		}
	}
	return false
}

// parts is the names of the relations of which one of the axioms is made; of model 0 those of Uniproc.
func parts(model int) []string {
	return [][]string{
		{"po by uniproc", "rf", "co", "fr"},
		{"po", "rf", "co", "fr"},
		{"po by x86-TSO", "fence", "lock", "rfe", "co", "fr"},
		{"po by PSO", "fence", "lock", "rfe", "co", "fr"},
	}[model]
}

// union is the relation that is made of these parts.
func (w words) union(names []string) api.Rel {
	r := api.Rel{N: w.n}
	for _, name := range names {
		g := w.r[name]
		for a := range w.n {
			for b := range w.n {
				if g[a][b] {
					r.Rows[a] |= 1 << b
				}
			}
		}
	}
	return r
}

// first is the first of some relations in which a pair stands.
func (w words) first(names []string, a, b int) string {
	for _, name := range names {
		if w.r[name][a][b] {
			return strings.Fields(name)[0]
		}
	}
	return ""
}

// triple is the first r, v, w by which the axiom AAtomic is broken.
func (w words) triple() []int {
	rmw, fr, co := w.r["rmw"], w.r["fr"], w.r["co"]
	for r := range w.n {
		for v := range w.n {
			for b := range w.n {
				if rmw[r][b] && fr[r][v] && co[v][b] {
					return []int{r, v, b}
				}
			}
		}
	}
	return nil
}

// goesRound tells whether some way leads back: nobody is left when all to whom nobody left stands are taken away, again and again, just if none does.
func goesRound(r api.Rel) bool {
	left := uint64(1)<<r.N - 1
	for range r.N + 1 {
		var behind uint64
		for a := range r.N {
			if left>>a&1 == 1 {
				behind |= r.Rows[a]
			}
		}
		left &= behind
	}
	return left != 0
}

// why is the axioms that do not hold.
func (w words) why(model int) []api.Broken {
	var l []api.Broken
	if r := w.union(parts(0)); goesRound(r) {
		round, _ := rel.Cycle(r)
		l = append(l, api.Broken{Axiom: 1, Round: round})
	}
	if round := w.triple(); round != nil {
		l = append(l, api.Broken{Axiom: 2, Round: round})
	}
	if r := w.union(parts(model)); goesRound(r) {
		round, _ := rel.Cycle(r)
		l = append(l, api.Broken{Axiom: 3, Round: round})
	}
	return l
}

// labels is the names of the relations in which a pair stands.
func (w words) labels(a, b int) []string {
	var l []string
	if a < 0 || a >= w.n || b < 0 || b >= w.n {
		return nil
	}
	for _, name := range []string{"po", "fence", "lock", "rfe", "rfi", "coe", "coi", "fre", "fri"} {
		if w.r[name][a][b] {
			l = append(l, name)
		}
	}
	return l
}

// explain is the text of broken axioms.
func (w words) explain(p api.Prog, model int, broken []api.Broken) string {
	var s string
	for _, k := range broken {
		s += []string{"", "uniproc:", "atomic:", "global:"}[k.Axiom]
		for i, a := range k.Round {
			b := k.Round[(i+1)%len(k.Round)]
			s += " " + event.Text(p, w.x.Events[a])
			switch k.Axiom {
			case 1:
				s += " -" + w.first(parts(0), a, b) + "->"
			case 2:
				s += []string{" -fr->", " -co->", ""}[i]
			case 3:
				s += " -" + w.first(parts(model), a, b) + "->"
			}
		}
		if k.Axiom != 2 {
			s += " " + event.Text(p, w.x.Events[k.Round[0]])
		}
		s += "\n"
	}
	return s
}
