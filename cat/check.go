package cat

import "weir/api"

// checked is the sorts of all terms of a model; or the first error, and the number of its rule.
func checked(m api.Model) ([][]int, int, api.Errno) {
	if !free(m.Name) {
		return nil, 0, api.ErrName
	}
	nodes := 0
	for _, r := range m.Rules {
		nodes += len(r.Terms)
	}
	if nodes > api.MaxNodes {
		return nil, 0, api.ErrLong
	}
	var all [][]int
	lets := map[string]int{}
	for i, r := range m.Rules {
		sorts, err := checkedRule(r, lets)
		if err != api.OK {
			return nil, i, err
		}
		all = append(all, sorts)
		if r.Kind == api.RLet {
			lets[r.Name] = sorts[len(sorts)-1]
		}
	}
	return all, 0, api.OK
}

// checkedRule is the sorts of a rule's nodes, if the rules ahead let names of these sorts; or its first error.
func checkedRule(r api.Rule, lets map[string]int) ([]int, api.Errno) {
	if r.Kind < api.RLet || r.Kind >= len(kinds) || !stand(r.Terms) {
		return nil, api.ErrModel
	}
	if deepest(r.Terms) > api.MaxDepth {
		return nil, api.ErrDepth
	}
	sorts, err := sortsOf(r.Terms, lets)
	if err != api.OK {
		return nil, err
	}
	if err := headed(r, sorts[len(sorts)-1], lets); err != api.OK {
		return nil, err
	}
	return sorts, api.OK
}

// headed is what is wrong with a rule's name and kind, if its term has a sort.
func headed(r api.Rule, sort int, lets map[string]int) api.Errno {
	if r.Kind == api.RLet {
		if !free(r.Name) {
			return api.ErrName
		}
		if _, ok := known(r.Name, lets); ok {
			return api.ErrTwice
		}
		return api.OK
	}
	if r.Name != "" && !free(r.Name) {
		return api.ErrName
	}
	if r.Kind != api.REmpty && sort == api.SSet {
		return api.ErrSort
	}
	return api.OK
}

// known is the sort of a name, known from the start or let.
func known(name string, lets map[string]int) (int, bool) {
	if s, ok := Builtin(name); ok {
		return s, true
	}
	s, ok := lets[name]
	return s, ok
}

// stand tells whether nodes make a term. Each node is made of a run of nodes that ends with itself: it is enough to know where the runs begin.
func stand(l []api.Term) bool {
	if len(l) == 0 {
		return false
	}
	first := make([]int, len(l))
	for i, n := range l {
		if !fields(n) {
			return false
		}
		begin, ok := run(first[:i], n)
		if !ok {
			return false
		}
		first[i] = begin
	}
	return first[len(l)-1] == 0
}

// fields tells whether a node has an Op, and no fields that this has not.
func fields(n api.Term) bool {
	if n.Op < api.XName || n.Op >= len(operators) {
		return false
	}
	parts := operators[n.Op].parts
	return (n.A == 0 || parts > 0) && (n.B == 0 || parts > 1) && (n.Name == "" || n.Op == api.XName)
}

// run is where the nodes begin of which the next node is made, first telling it of those ahead; false: its parts don't stand right ahead of it.
func run(first []int, n api.Term) (int, bool) {
	at := len(first)
	switch operators[n.Op].parts {
	case 1:
		if at == 0 || n.A != at-1 {
			return 0, false
		}
		return first[n.A], true
	case 2:
		if at == 0 || n.B != at-1 || first[n.B] == 0 || n.A != first[n.B]-1 {
			return 0, false
		}
		return first[n.A], true
	}
	return at, true
}

// deepest is how many ( , [ and ~ of a term's text stand within one another at most.
func deepest(l []api.Term) int {
	deep := make([]int, len(l))
	part := func(i, of int) int {
		if bracketed(l, i, of) {
			return deep[i] + 1
		}
		return deep[i]
	}
	for i, n := range l {
		switch operators[n.Op].parts {
		case 1:
			deep[i] = part(n.A, i)
		case 2:
			deep[i] = max(part(n.A, i), part(n.B, i))
		}
		if n.Op == api.XNot || n.Op == api.XOn {
			deep[i]++
		}
	}
	return deep[len(l)-1]
}

// sortsOf is the sorts of a term's nodes; or what is wrong with the first one that has none.
func sortsOf(l []api.Term, lets map[string]int) ([]int, api.Errno) {
	sorts := make([]int, len(l))
	for i, n := range l {
		if n.Op == api.XName {
			s, ok := known(n.Name, lets)
			if !ok {
				return nil, api.ErrScope
			}
			sorts[i] = s
			continue
		}
		s, ok := made(n, sorts)
		if !ok {
			return nil, api.ErrSort
		}
		sorts[i] = s
	}
	return sorts, api.OK
}

// made is the sort of a node that is no name, by the sorts of the nodes ahead; false: it has none.
func made(n api.Term, sorts []int) (int, bool) {
	row := operators[n.Op]
	if row.parts == 0 {
		return row.makes, true
	}
	s := sorts[n.A]
	if row.parts == 2 && sorts[n.B] != s || row.takes != 0 && s != row.takes {
		return 0, false
	}
	if row.makes != 0 {
		return row.makes, true
	}
	return s, true
}
