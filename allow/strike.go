package allow

import (
	"iter"
	"maps"
	"slices"

	"weir/api"
	"weir/cand"
	"weir/state"
)

// kept goes through the candidates that are not struck.
func kept(all iter.Seq[api.Exec], keeps func(api.Exec) bool) iter.Seq[api.Exec] {
	return func(yield func(api.Exec) bool) {
		for x := range all {
			if keeps(x) && !yield(x) {
				return
			}
		}
	}
}

// finals is the set of the final states of some candidates. These are far more than their final states: only each of those is held on to, once.
func finals(p api.Prog, some iter.Seq[api.Exec]) []api.Final {
	seen := map[api.Final]struct{}{}
	for x := range some {
		if f, e := cand.End(p, x); e == api.OK {
			seen[f] = struct{}{}
		}
	}
	return state.Sort(slices.Collect(maps.Keys(seen)))
}

// copyOf is a model like another one, in memory of its own.
func copyOf(m api.Model) api.Model {
	c := api.Model{Name: m.Name, Rules: slices.Clone(m.Rules)}
	for i, r := range c.Rules {
		c.Rules[i].Terms = slices.Clone(r.Terms)
	}
	return c
}
