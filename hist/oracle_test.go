package hist_test

import (
	"fmt"
	"math/big"
	"regexp"
	"slices"
	"strconv"
	"strings"

	"weir/api"
	"weir/cond"
	"weir/prog"
)

// setOf is the set of some right final states.
func setOf(l []api.Final) []api.Final {
	l = slices.Clone(l)
	slices.SortFunc(l, compareFinals)
	return slices.Compact(l)
}

func compareFinals(a, b api.Final) int {
	if a.N != b.N {
		return a.N - b.N
	}
	return slices.Compare(a.V[:], b.V[:])
}

// refKey is a text of a reference, so made that texts byte by byte have the order of references.
func refKey(r api.Ref) string {
	if r.Thread == -1 {
		return ":" + r.Name
	}
	return fmt.Sprintf("%05d:%s", r.Thread, r.Name)
}

// written is a reference as people write it.
func written(r api.Ref) string {
	if r.Thread == -1 {
		return r.Name
	}
	return fmt.Sprintf("%d:%s", r.Thread, r.Name)
}

var nameForm = regexp.MustCompile(`^[A-Za-z_]([A-Za-z0-9_.]|[+-][A-Za-z0-9_])*$`)

func saysName(s string) bool { return len(s) <= 64 && nameForm.MatchString(s) }

// saysRight is what the chapter calls right, word by word.
func saysRight(h api.Hist) bool {
	if !saysName(h.Name) || !slices.Contains([]int{api.Exists, api.NotExists, api.Forall}, h.Quant) || cond.Check(h.Cond) != api.OK {
		return false
	}
	keys := []string{}
	for _, r := range h.Refs {
		if r.Thread < -1 || r.Thread > 9999 || !saysName(r.Name) {
			return false
		}
		keys = append(keys, refKey(r))
	}
	if len(h.Refs) > 48 || !rises(keys) {
		return false
	}
	if len(h.Rows) == 0 {
		return len(h.Refs) == 0
	}
	for _, n := range h.Cond {
		if n.Op == api.CIs && !slices.Contains(keys, refKey(n.Ref)) {
			return false
		}
	}
	return saysRows(h.Rows, len(h.Refs))
}

func rises(l []string) bool {
	return slices.IsSorted(l) && len(slices.Compact(slices.Clone(l))) == len(l)
}

func saysRows(l []api.Row, values int) bool {
	all := new(big.Int)
	for i, r := range l {
		if r.Count < 1 || r.Final.N != values || r.Final != of(r.Final.V[:values]...) {
			return false
		}
		if i > 0 && compareFinals(l[i-1].Final, r.Final) >= 0 {
			return false
		}
		all.Add(all, big.NewInt(r.Count))
	}
	return all.IsInt64()
}

// saysHolds asks the nodes one behind the other: the parts of each have their answers by then.
func saysHolds(c api.Cond, values map[string]int64) bool {
	var l []bool
	for _, n := range c {
		switch n.Op {
		case api.CTrue:
			l = append(l, true)
		case api.CIs:
			l = append(l, values[written(n.Ref)] == n.Value)
		case api.CNot:
			l = append(l, !l[n.A])
		case api.CAnd:
			l = append(l, l[n.A] && l[n.B])
		case api.COr:
			l = append(l, l[n.A] || l[n.B])
		}
	}
	return l[len(l)-1]
}

// cells is what a final state has, by the texts of references.
func cells(refs []api.Ref, f api.Final) map[string]int64 {
	m := map[string]int64{}
	for i, r := range refs {
		m[written(r)] = f.V[i]
	}
	return m
}

// saysCounts is how often a right histogram's condition held, and how often not.
func saysCounts(h api.Hist) (int64, int64) {
	var n [2]int64
	for _, r := range h.Rows {
		if saysHolds(h.Cond, cells(h.Refs, r.Final)) {
			n[0] += r.Count
		} else {
			n[1] += r.Count
		}
	}
	return n[0], n[1]
}

// saysLog is the lines that the chapter numbers, of a right histogram.
func saysLog(h api.Hist) string {
	n, k := saysCounts(h)
	words := [][]string{nil, {"Allowed", "exists"}, {"Forbidden", "~exists"}, {"Required", "forall"}}[h.Quant]
	lines := []string{fmt.Sprintf("Test %s %s", h.Name, words[0]), fmt.Sprintf("Histogram (%d states)", len(h.Rows))}
	for _, r := range h.Rows {
		sign := map[bool]string{true: "*", false: ":"}[saysHolds(h.Cond, cells(h.Refs, r.Final))]
		var values []string
		for i, x := range h.Refs {
			values = append(values, fmt.Sprintf("%s=%d;", written(x), r.Final.V[i]))
		}
		lines = append(lines, fmt.Sprintf("%-6d%s>%s", r.Count, sign, strings.Join(values, " ")))
	}
	verdict, result := "No", "NOT validated"
	if []bool{false, n > 0, n == 0, k == 0}[h.Quant] {
		verdict, result = "Ok", "validated"
	}
	often := "Sometimes"
	if k == 0 {
		often = "Always"
	}
	if n == 0 {
		often = "Never"
	}
	question, _ := cond.Text(h.Cond)
	lines = append(lines, verdict, "", "Witnesses", fmt.Sprintf("Positive: %d, Negative: %d", n, k),
		fmt.Sprintf("Condition %s %s is %s", words[1], question, result), fmt.Sprintf("Observation %s %s %d %d", h.Name, often, n, k), "")
	return strings.Join(lines, "\n")
}

var (
	rowForm  = regexp.MustCompile(`(?m)^([0-9]+) *([*:]>.*)$`)
	cellForm = regexp.MustCompile(`^(?:([0-9]+):)?([^ :=;]+)=(-?[0-9]+);$`)
	headForm = regexp.MustCompile(`^Test (\S+) (Allowed|Forbidden|Required)\n`)
	condForm = regexp.MustCompile(`\nCondition ~?[a-z]+ (.*) is (?:NOT )?validated\n`)
)

// squeezed is a text without the blanks behind the counts of rows.
func squeezed(s string) string { return rowForm.ReplaceAllString(s, "$1$2") }

// saysParse is the histogram whose log a text is, but for these blanks; false: there is none. No line but a row begins with a digit.
func saysParse(s string) (api.Hist, bool) {
	head, question := headForm.FindStringSubmatch(s), condForm.FindStringSubmatch(s)
	if head == nil || question == nil {
		return api.Hist{}, false
	}
	c, err := cond.Parse(question[1])
	if err != nil {
		return api.Hist{}, false
	}
	h := api.Hist{Name: head[1], Quant: 1 + strings.Index("AFR", head[2][:1]), Cond: c}
	for _, l := range rowForm.FindAllStringSubmatch(s, -1) {
		r, refs, ok := saysRow(l[1], l[2][2:])
		if !ok {
			return api.Hist{}, false
		}
		h.Rows, h.Refs = append(h.Rows, r), refs
	}
	if !saysRight(h) || squeezed(saysLog(h)) != squeezed(s) {
		return api.Hist{}, false
	}
	return h, true
}

func saysRow(count, text string) (api.Row, []api.Ref, bool) {
	n, err := strconv.ParseInt(count, 10, 64)
	if err != nil {
		return api.Row{}, nil, false
	}
	var refs []api.Ref
	var values []int64
	for cell := range strings.SplitSeq(text, " ") {
		m := cellForm.FindStringSubmatch(cell)
		if text == "" {
			break
		}
		if m == nil || len(values) == 48 {
			return api.Row{}, nil, false
		}
		r := loc(m[2])
		if m[1] != "" {
			r.Thread, err = strconv.Atoi(m[1])
		}
		v, err2 := strconv.ParseInt(m[3], 10, 64)
		if err != nil || err2 != nil {
			return api.Row{}, nil, false
		}
		refs, values = append(refs, r), append(values, v)
	}
	return row(n, values...), refs, true
}

// saysLooks is what a test looks at.
func saysLooks(t api.Test) []api.Ref {
	var l []api.Ref
	for _, n := range t.Cond {
		if n.Op == api.CIs {
			l = append(l, n.Ref)
		}
	}
	l = append(l, t.Watch...)
	slices.SortFunc(l, func(a, b api.Ref) int { return strings.Compare(refKey(a), refKey(b)) })
	return slices.Compact(l)
}

// saysPart is what a test looks at in a final state of its program.
func saysPart(t api.Test, p api.Prog, f api.Final) api.Final {
	all := cells(prog.Names(p), f)
	var values []int64
	for _, r := range saysLooks(t) {
		values = append(values, all[written(r)])
	}
	return of(values...)
}

func saysParts(t api.Test, p api.Prog, l []api.Final) []api.Final {
	var parts []api.Final
	for _, f := range l {
		parts = append(parts, saysPart(t, p, f))
	}
	return setOf(parts)
}

// saysOf goes over all runs for each row.
func saysOf(t api.Test, p api.Prog, runs []api.Final) api.Hist {
	h := api.Hist{Name: t.Name, Quant: t.Quant, Cond: t.Cond}
	for _, f := range saysParts(t, p, runs) {
		h.Refs = saysLooks(t)
		r := api.Row{Final: f}
		for _, g := range runs {
			if saysPart(t, p, g) == f {
				r.Count++
			}
		}
		h.Rows = append(h.Rows, r)
	}
	return h
}

// without is the members of a set that another one has not.
func without(a, b []api.Final) []api.Final {
	return slices.DeleteFunc(slices.Clone(a), func(f api.Final) bool { return slices.Contains(b, f) })
}

// same tells whether two histograms are the same; an empty list is one that is nil.
func same(a, b api.Hist) bool {
	return a.Name == b.Name && a.Quant == b.Quant && slices.Equal(a.Refs, b.Refs) && slices.Equal(a.Rows, b.Rows) && slices.Equal(a.Cond, b.Cond)
}

// isZero tells whether a histogram is the zero one, its lists nil or empty.
func isZero(h api.Hist) bool { return same(h, api.Hist{}) }
