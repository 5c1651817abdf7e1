package canon_test

import (
	"cmp"
	"fmt"
	"reflect"
	"regexp"
	"slices"
	"strings"
	"testing"

	"weir/api"
	"weir/cond"
	"weir/litmus"
	"weir/print"
)

var (
	nameForm  = regexp.MustCompile(`^[A-Za-z_](?:[A-Za-z0-9_.]|[+-][A-Za-z0-9_])*$`)
	regForm   = regexp.MustCompile(`^(?:E[ABCD]X|E[SD]I|E[BS]P|R[89]|R1[0-5])$`)
	cellForm  = regexp.MustCompile(`\[[^]]*\]|\b(?:E[ABCD]X|E[SD]I|E[BS]P|R[89]|R1[0-5])\b`)
	equalForm = regexp.MustCompile(`(?:([0-3]):)?([A-Za-z_](?:[A-Za-z0-9_.]|[+-][A-Za-z0-9_])*)=`)
)

// isName is what chapter 5 calls a name, said as a pattern.
func isName(s string) bool { return len(s) <= api.MaxName && nameForm.MatchString(s) }

func isReg(s string) bool { return regForm.MatchString(s) }

func hasCmpxchg(l []api.Instr) bool {
	for _, in := range l {
		if strings.Contains(instrText(in), "CMPXCHG") {
			return true
		}
	}
	return false
}

func instrText(in api.Instr) string {
	s, e := print.Instr(in)
	if e != api.OK {
		panic(fmt.Sprint(in, ": ", e))
	}
	return s
}

// cells is what an instruction names, as its text says it, in the order in which registers and locations have their turn: a register that is written or exchanged ahead of one that is read.
func cells(thread int, in api.Instr) []api.Ref {
	var l []api.Ref
	for _, s := range cellForm.FindAllString(instrText(in), -1) {
		if strings.HasPrefix(s, "[") {
			l = append(l, loc(strings.Trim(s, "[]")))
		} else {
			l = append(l, reg(thread, s))
		}
	}
	return l
}

// named is all that instructions name, EAX of LOCK CMPXCHG too.
func named(x api.Test) []api.Ref {
	var l []api.Ref
	for k, thread := range x.Threads {
		for _, in := range thread {
			l = append(l, cells(k, in)...)
		}
		if hasCmpxchg(thread) {
			l = append(l, reg(k, "EAX"))
		}
	}
	return l
}

// namesOf is the registers of each thread and the locations, rising.
func namesOf(x api.Test) ([][]string, []string) {
	regs, locs := make([][]string, len(x.Threads)), []string{}
	for _, r := range refsOf(x) {
		if r.Thread == -1 {
			locs = append(locs, r.Name)
		} else {
			regs[r.Thread] = append(regs[r.Thread], r.Name)
		}
	}
	return regs, locs
}

// refsOf is all registers and locations of a test, as a final state has them.
func refsOf(x api.Test) []api.Ref {
	l := named(x)
	for _, i := range x.Inits {
		l = append(l, i.Ref)
	}
	slices.SortFunc(l, func(a, b api.Ref) int {
		return cmp.Or(cmp.Compare(uint(a.Thread), uint(b.Thread)), strings.Compare(a.Name, b.Name))
	})
	return slices.Compact(l)
}

// asked is what the condition and the watched references are about, in order.
func asked(x api.Test) []api.Ref {
	var l []api.Ref
	for _, n := range x.Cond {
		if n.Op == api.CIs {
			l = append(l, n.Ref)
		}
	}
	return append(l, x.Watch...)
}

func valueOf(x api.Test, r api.Ref) int64 {
	for _, i := range x.Inits {
		if i.Ref == r {
			return i.Value
		}
	}
	return 0
}

// renamingBy is the names that a form by an order gives, from the ranks of names: where each one comes first, then its value, then itself.
func renamingBy(x api.Test, order []int) api.Renaming {
	var seen []api.Ref
	for _, k := range order {
		for _, in := range x.Threads[k] {
			seen = append(seen, cells(k, in)...)
		}
	}
	seen = append(seen, asked(x)...)
	turn := func(r api.Ref) int {
		if r.Name == "EAX" && r.Thread >= 0 && hasCmpxchg(x.Threads[r.Thread]) {
			return -1
		}
		if i := slices.Index(seen, r); i >= 0 {
			return i
		}
		return len(seen)
	}
	refs := refsOf(x)
	changes := map[int][]api.Change{}
	for _, r := range refs {
		ahead := 0
		for _, o := range refs {
			if o.Thread == r.Thread && cmp.Or(cmp.Compare(turn(o), turn(r)), cmp.Compare(valueOf(x, o), valueOf(x, r)), strings.Compare(o.Name, r.Name)) < 0 {
				ahead++
			}
		}
		to := strings.Fields("EAX EBX ECX EDX ESI EDI EBP ESP")
		if r.Thread == -1 {
			to = strings.Split("abcdefghijklmnop", "")
		}
		changes[r.Thread] = append(changes[r.Thread], api.Change{From: r.Name, To: to[ahead]})
	}
	out := api.Renaming{Locs: changes[-1]}
	for k := range x.Threads {
		out.Threads = append(out.Threads, slices.Index(order, k))
		out.Regs = append(out.Regs, changes[k])
	}
	return out
}

// newRef is the text of a reference under a renaming.
func newRef(r api.Renaming, x api.Ref) string {
	l, head := r.Locs, ""
	if x.Thread >= 0 {
		l, head = r.Regs[x.Thread], fmt.Sprint(r.Threads[x.Thread], ":")
	}
	for _, c := range l {
		if c.From == x.Name {
			return head + c.To
		}
	}
	return head + x.Name
}

// renamedText is a file of a test under a renaming: its texts with new names in their places, its settings as told.
func renamedText(x api.Test, r api.Renaming, settings []string) string {
	columns := make([][]string, len(x.Threads))
	rows := 0
	for k, l := range x.Threads {
		for _, in := range l {
			columns[r.Threads[k]] = append(columns[r.Threads[k]], cellForm.ReplaceAllStringFunc(instrText(in), func(s string) string {
				if name, ok := strings.CutPrefix(s, "["); ok {
					return "[" + newRef(r, loc(strings.TrimSuffix(name, "]"))) + "]"
				}
				_, s, _ = strings.Cut(newRef(r, reg(k, s)), ":")
				return s
			}))
		}
		rows = max(rows, len(l))
	}
	var out strings.Builder
	fmt.Fprintf(&out, "X86 %s\n", x.Name)
	if x.Doc != "" {
		fmt.Fprintf(&out, "%q\n", "doc") // a doc may have bytes that %q writes otherwise: who reads this puts the doc in its place
	}
	fmt.Fprintf(&out, "{ %s }\n", strings.Join(settings, "; "))
	for row := range rows + 1 {
		for k, l := range columns {
			cell := ""
			if row == 0 {
				cell = fmt.Sprint("P", k)
			} else if row <= len(l) {
				cell = l[row-1]
			}
			out.WriteString(strings.Repeat(" | ", min(k, 1)) + cell)
		}
		out.WriteString(" ;\n")
	}
	if len(x.Watch) > 0 {
		out.WriteString("locations [")
		for _, w := range x.Watch {
			out.WriteString(newRef(r, w) + "; ")
		}
		out.WriteString("]\n")
	}
	question, e := cond.Text(x.Cond)
	if e != api.OK {
		panic(fmt.Sprint(x.Cond, ": ", e))
	}
	return out.String() + strings.Fields("- exists ~exists forall")[x.Quant] + " " + equalForm.ReplaceAllStringFunc(question, func(s string) string {
		m := equalForm.FindStringSubmatch(s)
		if m[1] == "" {
			return newRef(r, loc(m[2])) + "="
		}
		return newRef(r, reg(int(m[1][0]-'0'), m[2])) + "="
	})
}

// underOf is a test under a renaming that is right.
func underOf(t *testing.T, x api.Test, r api.Renaming) api.Test {
	t.Helper()
	var settings []string
	for _, i := range x.Inits {
		settings = append(settings, fmt.Sprint(newRef(r, i.Ref), "=", i.Value))
	}
	y, err := litmus.Parse(renamedText(x, r, settings))
	if err != nil {
		t.Fatalf("%s: %v", renamedText(x, r, settings), err)
	}
	y.Doc = x.Doc
	return y
}

// formBy is a test's form by an order.
func formBy(t *testing.T, x api.Test, order []int) (api.Test, api.Renaming) {
	t.Helper()
	r := renamingBy(x, order)
	inInstrs := named(x)
	var settings []string
	for _, i := range x.Inits {
		if i.Value != 0 || !slices.Contains(inInstrs, i.Ref) {
			settings = append(settings, fmt.Sprint(newRef(r, i.Ref), "=", i.Value))
		}
	}
	// Thread numbers are digits, locations of a form small letters, and = stands ahead of both: as texts they stand as prog.Names has them.
	slices.Sort(settings)
	x.Name, x.Doc = "t", ""
	y, err := litmus.Parse(renamedText(x, r, settings))
	if err != nil {
		t.Fatalf("%s: %v", renamedText(x, r, settings), err)
	}
	return y, r
}

// orders is all orders of n, in the order of lists.
func orders(n int) [][]int {
	var out [][]int
	var on func(l []int)
	on = func(l []int) {
		if len(l) == n {
			out = append(out, slices.Clone(l))
		}
		for i := range n {
			if !slices.Contains(l, i) {
				on(append(slices.Clone(l), i))
			}
		}
	}
	on(nil)
	return out
}

func textOf(t *testing.T, x api.Test) string {
	t.Helper()
	s, e := print.Text(x)
	if e != api.OK {
		t.Fatalf("Text(%v): %d", x, e)
	}
	return s
}

// leastForm is the form with the least text, the renaming of the first order that makes it, and how many do.
func leastForm(t *testing.T, x api.Test) (api.Test, api.Renaming, int) {
	t.Helper()
	var least api.Test
	var by api.Renaming
	text, n := "", 0
	for _, order := range orders(len(x.Threads)) {
		y, r := formBy(t, x, order)
		s := textOf(t, y)
		if text != "" && len(s) != len(text) {
			t.Fatalf("forms of unlike lengths:\n%s%s", s, text)
		}
		if text == "" || s < text {
			least, by, text, n = y, r, s, 0
		}
		if s == text {
			n++
		}
	}
	return least, by, n
}

// rightOf tells whether a renaming is right for a test, its parts asked one by one.
func rightOf(x api.Test, r api.Renaming) bool {
	threads := slices.Sorted(slices.Values(r.Threads))
	if !slices.Equal(threads, numbers(len(x.Threads))) || len(r.Regs) != len(x.Threads) {
		return false
	}
	for _, l := range append(slices.Clone(r.Regs), r.Locs) {
		for i := range l {
			if i > 0 && strings.Compare(l[i-1].From, l[i].From) >= 0 {
				return false
			}
		}
	}
	seen := map[string]int{}
	for _, ref := range refsOf(x) {
		to := newRef(r, ref)
		seen[to]++
		_, name, ofThread := strings.Cut(to, ":")
		switch {
		case seen[to] > 1:
			return false
		case ref.Thread == -1 && !isName(to):
			return false
		case ref.Thread >= 0 && (!ofThread || !isReg(name)):
			return false
		case ref.Thread >= 0 && ref.Name == "EAX" && name != "EAX" && hasCmpxchg(x.Threads[ref.Thread]):
			return false
		}
	}
	return true
}

// even is a value without what does not count: whether a list that is empty is nil.
func even(v any) any {
	switch v := v.(type) {
	case api.Test:
		v.Inits, v.Watch, v.Cond = append([]api.Init{}, v.Inits...), append([]api.Ref{}, v.Watch...), append(api.Cond{}, v.Cond...)
		v.Threads = evenLists(v.Threads)
		return v
	case api.Renaming:
		v.Threads, v.Locs = append([]int{}, v.Threads...), append([]api.Change{}, v.Locs...)
		v.Regs = evenLists(v.Regs)
		return v
	case [][]int:
		return evenLists(v)
	}
	return v
}

func evenLists[T any](l [][]T) [][]T {
	out := [][]T{}
	for _, e := range l {
		out = append(out, append([]T{}, e...))
	}
	return out
}

func same(a, b any) bool { return reflect.DeepEqual(even(a), even(b)) }
