package cat_test

import (
	"strconv"
	"strings"
	"testing"

	"weir/api"
	"weir/cat"
)

// replaced is what Inline must make, without a bound: trees take the place of names, the lets' own first.
func replaced(m api.Model) api.Model {
	lets := map[string]*tree{}
	var fill func(t *tree) *tree
	fill = func(t *tree) *tree {
		if t == nil {
			return nil
		}
		if let := lets[t.name]; t.op == api.XName && let != nil {
			return let
		}
		return &tree{op: t.op, name: t.name, a: fill(t.a), b: fill(t.b)}
	}
	out := api.Model{Name: m.Name}
	for _, r := range m.Rules {
		t, _ := grown(r.Terms)
		if r.Kind == api.RLet {
			lets[r.Name] = fill(t)
			continue
		}
		out.Rules = append(out.Rules, api.Rule{Kind: r.Kind, Name: r.Name, Terms: fill(t).nodes()})
	}
	return out
}

// checkInline holds Inline against the trees, and against what follows.
func checkInline(t *testing.T, m api.Model) api.Errno {
	t.Helper()
	want := replaced(m)
	_, wrong := verdict(want)
	got, err := cat.Inline(m)
	if err != wrong || wrong != api.OK && !zero(got) || wrong == api.OK && !same(got, want) {
		t.Errorf("Inline of %.300q: %v, %d; want %v, %d", modelText(m), got, err, want, wrong)
		return err
	}
	if err != api.OK {
		return err
	}
	if again, err := cat.Inline(got); err != api.OK || !same(again, got) {
		t.Errorf("Inline of %q: %v, %d", modelText(got), again, err)
	}
	checkChecks(t, m, got)
	return err
}

// checkChecks asks that an inlined model has the checks of the model, with the same names and sorts, and no lets.
func checkChecks(t *testing.T, m, got api.Model) {
	t.Helper()
	before, _ := cat.Sorts(m)
	after, _ := cat.Sorts(got)
	k := 0
	for i, r := range m.Rules {
		if r.Kind == api.RLet {
			continue
		}
		if k >= len(got.Rules) || got.Rules[k].Kind != r.Kind || got.Rules[k].Name != r.Name || before[i][len(before[i])-1] != after[k][len(after[k])-1] {
			t.Fatalf("Inline of %q: %v", modelText(m), got)
		}
		k++
	}
	if k != len(got.Rules) {
		t.Errorf("Inline of %q: %v", modelText(m), got)
	}
}

// 20.5: what stands in the places of names.
func TestInline(t *testing.T) {
	for s, want := range map[string]string{
		"t":                                  "t\n",
		"t let a = po":                       "t\n",
		"t empty po as a":                    "t\nempty po as a\n",
		"t let a = po empty a as a":          "t\nempty po as a\n",
		"t let a = po | rf empty a ; a":      "t\nempty (po | rf) ; (po | rf)\n",
		"t let a = W let b = ~a empty b*a":   "t\nempty ~W * W\n",
		"t let a = po ; rf acyclic co ; a":   "t\nacyclic co ; (po ; rf)\n",
		"t let a = po ; rf acyclic a ; co":   "t\nacyclic po ; rf ; co\n",
		"t let a = 0 let b = a* empty ~b^-1": "t\nempty ~0*^-1\n",
		"t empty W let a = W empty R let b = a empty [b] & id as x irreflexive b*b":                                         "t\nempty W\nempty R\nempty [W] & id as x\nirreflexive W * W\n",
		"t let a = po let b = a let c = b let d = c empty d | a":                                                            "t\nempty po | po\n",
		"TSO let com = rf | co | fr acyclic po & loc | com as uniproc let fence = po ; [F] ; po acyclic fence | com as tso": "TSO\nacyclic po & loc | (rf | co | fr) as uniproc\nacyclic po ; [F] ; po | (rf | co | fr) as tso\n",
	} {
		m, err := cat.Parse(s)
		if err != nil {
			t.Fatalf("Parse(%q): %v", s, err)
		}
		lean, wrong := cat.Inline(m)
		got, _ := cat.Text(lean)
		if wrong != api.OK || got != want {
			t.Errorf("Inline of %q: %q, %d; want %q", s, got, wrong, want)
		}
		checkInline(t, m)
	}
}

// 20.5, 20.9: greater models.
func TestInlineGreat(t *testing.T) {
	roll := dice(205)
	seen := map[api.Errno]int{}
	for range 3000 {
		m := randomModel(roll, int(roll()%14), 9)
		if _, err := cat.Check(m); err == api.OK && size(m) < 20000 {
			seen[checkInline(t, m)]++
		}
	}
	if seen[api.OK] < 1000 || seen[api.ErrLong] < 10 {
		t.Errorf("errors: %v", seen)
	}
}

// size is how many nodes a model has when its lets are replaced.
func size(m api.Model) int {
	lets := map[string]int{}
	sum := 0
	for _, r := range m.Rules {
		n := 0
		for _, k := range r.Terms {
			n += max(1, lets[k.Name])
		}
		if n = min(n, 1<<30); r.Kind == api.RLet {
			lets[r.Name] = n
		} else {
			sum += n
		}
	}
	return sum
}

// 20.5: as many nodes as may be, and one more, in one check and in several; lets alone do not count.
func TestInlineLong(t *testing.T) {
	// a has 255 nodes: 127 ; and 128 names.
	ahead := "t let a = po" + strings.Repeat(" ; po", 127)
	for s, want := range map[string]api.Errno{
		" empty a | a | a | a":                              api.OK, // 1023
		" empty (a | a | a | a)?":                           api.OK,
		" empty (a | a | a | a)??":                          api.ErrLong,
		" empty a empty a empty a empty a empty a":          api.ErrLong,
		" empty a empty a empty a empty a empty po | rf?":   api.OK,
		" empty a empty a empty a empty a empty po | rf|co": api.ErrLong,
		" let b = a | a | a | a | a":                        api.OK,
		" let b = a | a | a | a | a empty W":                api.OK,
		" let b = a | a | a | a | a empty b":                api.ErrLong,
		" let b = a | a | a | a | a let c = b | b empty W":  api.OK,
		" let b = a | a | a | a | a let c = b empty c":      api.ErrLong,
		" let b = (a | a | a | a)? empty b":                 api.OK,
		" let b = (a | a | a | a)? let c = b empty c":       api.OK,
		" let b = (a | a | a | a)? let c = b empty c*":      api.ErrLong,
		" let b = (a | a | a | a)? empty b empty W":         api.ErrLong,
	} {
		m, err := cat.Parse(ahead + s)
		if err != nil {
			t.Fatalf("Parse of %q: %v", s, err)
		}
		if got := checkInline(t, m); got != want {
			t.Errorf("Inline of %q: %d; want %d", s, got, want)
		}
	}
}

// 20.5: lets that double each other, many times.
func TestInlineDoubling(t *testing.T) {
	s := "t let a0 = po"
	for i := range 250 {
		last := "a" + strconv.Itoa(i)
		s += " let a" + strconv.Itoa(i+1) + " = " + last + " | " + last
	}
	for check, want := range map[string]api.Errno{"": api.OK, " empty W": api.OK, " empty a9": api.OK, " empty a10": api.ErrLong, " empty a11": api.ErrLong, " empty a250": api.ErrLong} {
		m, err := cat.Parse(s + check)
		if err != nil {
			t.Fatal(err)
		}
		lean, wrong := cat.Inline(m)
		if wrong != want || wrong != api.OK && !zero(lean) {
			t.Errorf("Inline with %q: %d; want %d", check, wrong, want)
		}
		if check == " empty a9" && (len(lean.Rules) != 1 || len(lean.Rules[0].Terms) != 1023) {
			t.Errorf("Inline with %q: %v", check, lean)
		}
	}
	// A row of names that stand for one another, and all of them in one check.
	s = "t let a0 = po"
	check := " acyclic a0"
	for i := range 340 {
		s += " let a" + strconv.Itoa(i+1) + " = a" + strconv.Itoa(i)
		check += " | a" + strconv.Itoa(i+1)
	}
	m, err := cat.Parse(s + check)
	if err != nil {
		t.Fatal(err)
	}
	if lean, wrong := cat.Inline(m); wrong != api.OK || modelText(lean) != "t\nacyclic po"+strings.Repeat(" | po", 340)+"\n" {
		t.Errorf("Inline of a row of names: %d", wrong)
	}
}

// 20.5: what becomes too deep, though it was not; and, where both are so, too long.
func TestInlineDeep(t *testing.T) {
	nots := func(n int) string { return strings.Repeat("~", n) }
	for s, want := range map[string]api.Errno{
		"t let a = " + nots(32) + "W empty " + nots(32) + "a":                                          api.OK,
		"t let a = " + nots(32) + "W empty " + nots(33) + "a":                                          api.ErrDepth,
		"t let a = " + nots(64) + "W let b = ~a empty W":                                               api.OK,
		"t let a = " + nots(64) + "W let b = ~a empty b":                                               api.ErrDepth,
		"t let a = " + nots(64) + "W let b = ~a empty W empty b":                                       api.ErrDepth,
		"t let a = po | rf empty " + nots(63) + "a":                                                    api.OK,
		"t let a = po | rf empty " + nots(64) + "a":                                                    api.ErrDepth,
		"t let a = W | R empty " + nots(62) + "[a]":                                                    api.OK,
		"t let a = W | R empty " + nots(63) + "[a]":                                                    api.OK,
		"t let a = W | R empty " + nots(62) + "[~a]":                                                   api.ErrDepth,
		"t let a = po ; rf empty " + strings.Repeat("po | (", 64) + "a | co" + strings.Repeat(")", 64): api.OK,
		"t let a = po | rf empty " + strings.Repeat("po | (", 64) + "co | a" + strings.Repeat(")", 64): api.ErrDepth,
		"t let a = " + nots(64) + "W let b = ~a let c = b|b|b|b|b|b|b|b empty c|c":                     api.ErrLong,
	} {
		m, err := cat.Parse(s)
		if err != nil {
			t.Fatalf("Parse(%q): %v", s, err)
		}
		if got := checkInline(t, m); got != want {
			t.Errorf("Inline of %q: %d; want %d", s, got, want)
		}
	}
}
