package desk_test

import (
	"errors"
	"fmt"
	"slices"
	"strings"
	"testing"

	"weir/api"
	"weir/canon"
	"weir/desk"
	"weir/lexis"
	"weir/litmus"
	"weir/prog"
)

// 28.4: what commands do is seen by those behind, in the same script and in the next one; desks are strangers.
func TestDesksAreStrangers(t *testing.T) {
	a, b := desk.New(), desk.New()
	do(t, a, "known m SC\nitems\n", "m model\n")
	do(t, b, "items\nshow m\n", "! 3\n")
	do(t, b, put("m", small), "")
	do(t, a, "items\n"+put("s", sb)+"items\n", "m model\nm model\ns test\n")
	do(t, b, "items\ndrop m\nitems\n", "m test\n")
	do(t, a, "items\n", "m model\ns test\n")
	do(t, desk.New(), "items\n", "")
	full := ""
	for i := range 64 {
		full += fmt.Sprintf("known i%d SC\n", i)
	}
	do(t, b, full+"known n SC\n", "! 1\n")
	do(t, a, "known n SC\nitems\n", "m model\nn model\ns test\n")
}

// 28.4: nothing that is asked changes an item.
func TestAskingChangesNothing(t *testing.T) {
	d := desk.New()
	d.Do(put("SB", sb) + "known m TSO\n" + put("x", file("x", "y=2; 0:EAX=1; x=1", []string{"XCHG [x],EAX; MOV EBX,[y]", "LOCK CMPXCHG [y],EBX; MFENCE"}, "locations [y; 0:EAX;] forall x=1 \\/ ~y=1")))
	before := d.Do("items\nshow SB\nshow m\nshow x\n")
	asks := ""
	for _, name := range []string{"SB", "x"} {
		asks += strings.ReplaceAll("form f A\nsame A A\ntable\nallow A m\nrobust A\nfences A\nstory A PSO 0:s 1:s 0:f\nplay A SC 0:s 1:s\nrun A TSO\nsize A SC\nshows A TSO\nwhy A SC\ncopy g A\ndrop f\ndrop g\n", "A", name)
	}
	first := d.Do(asks)
	for range 3 {
		do(t, d, asks, first)
		do(t, d, "items\nshow SB\nshow m\nshow x\n", before)
	}
}

// bent is a file with a few words or bytes changed, put in or left out.
func bent(roll func(int) int, b string) string {
	words := strings.Fields("X86 x P0 P1 P4 MOV MFENCE XCHG LOCK CMPXCHG XADD EAX RAX R15 locations exists forall true 0 -1 12ab 99999999999999999999 0:EAX 5:EAX { } [ ] ( ) ; : , | = $ ~ /\\ \\/ % (* *) \"")
	for range 1 + roll(3) {
		at := roll(len(b) + 1)
		to := min(len(b), at+roll(4))
		switch roll(3) {
		case 0:
			b = b[:at] + b[to:]
		case 1:
			b = b[:at] + " " + pick(roll, words) + " " + b[to:]
		default:
			b = b[:at] + string([]byte{byte(roll(256))}) + b[at:]
		}
	}
	return b
}

// 28.5, W2: a report, or one error of one of the three classes with its place; a report just if the file is not refused.
func TestReportOrError(t *testing.T) {
	roll := dice(285)
	classes := [4]int{}
	var all []string
	for _, c := range wrongFiles() {
		all = append(all, c.file)
	}
	all = append(all, edgeFiles()...)
	for range 6000 {
		all = append(all, bent(roll, pick(roll, []string{sb, someFile(roll, 2), someFile(roll, 2), edgeFiles()[1], small})))
	}
	for _, b := range all {
		s, err := desk.Run([]byte(b))
		x, refusal := refusedFile(b)
		classes[desk.Class(err)]++
		if refusal == "" {
			if err != nil || !strings.HasPrefix(s, "Test "+x.Name+" ") {
				t.Fatalf("Run(%q): %q, %v", b, s, err)
			}
			continue
		}
		var at *api.PosError
		if s != "" || desk.Class(err) == 0 || !errors.As(err, &at) || fmt.Sprintf("! %d %d %d\n", at.Err, at.Line, at.Col) != refusal {
			t.Fatalf("Run(%q): %q, %v; want %s", b, s, err, refusal)
		}
		lines := strings.Split(b, "\n")
		if at.Line < 1 || at.Line > len(lines) || at.Col < 1 || at.Col > len(lines[at.Line-1])+1 {
			t.Fatalf("Run(%q): %v is no place", b, err)
		}
	}
	for class, n := range classes {
		if n < 8 {
			t.Errorf("%d files of the class %d", n, class)
		}
	}
}

// loose is a file of the same test, with other rows, brackets, blanks and comments.
func loose(t *testing.T, roll func(int) int, b string) string {
	t.Helper()
	head, rest, _ := strings.Cut(b, " P0")
	rows, question, _ := strings.Cut(rest, ";\n")
	head += " P0" + rows + ";\n"
	cells := strings.Count(rows, "|")
	empty := strings.Repeat("|", cells) + " ;\n"
	var out strings.Builder
	out.WriteString(head)
	l := strings.SplitAfter(question, "\n")
	for i, row := range l {
		if !strings.HasSuffix(row, " ;\n") {
			out.WriteString(strings.Join(l[i:], ""))
			break
		}
		// Each cell in a row of its own, in any order, says the same.
		parts := strings.Split(strings.TrimSuffix(row, " ;\n"), "|")
		for _, k := range order(roll, len(parts)) {
			out.WriteString(strings.Repeat("|", k) + parts[k] + strings.Repeat("|", len(parts)-1-k) + ";\n" + strings.Repeat(empty, roll(2)))
		}
	}
	text := bracketed(roll, out.String())
	tokens, err := lexis.All(text)
	if err != nil {
		t.Fatalf("%s: %v", text, err)
	}
	blank := func() string {
		return pick(roll, []string{" ", "\n", "\t", "\r\n", "  ", " (* a comment *) ", "(* a (* b ; *) | *)", "(**)"})
	}
	loosened := blank()
	for _, k := range tokens {
		loosened += text[k.At:k.End] + blank()
	}
	return loosened
}

// bracketed is a file with brackets around its condition and, often, around each of its equations.
func bracketed(roll func(int) int, b string) string {
	for _, q := range []string{"~exists ", "exists ", "forall "} {
		i := strings.LastIndex(b, q)
		if i < 0 {
			continue
		}
		c := strings.TrimSpace(b[i+len(q):])
		if roll(2) == 0 && !strings.Contains(c, "(") {
			c = "(" + strings.NewReplacer(` /\ `, `)/\(`, ` \/ `, `)\/(`).Replace(c) + ")"
		}
		return b[:i] + q + "((" + c + "))"
	}
	return b
}

// order is the numbers below n in any order.
func order(roll func(int) int, n int) []int {
	var l []int
	for i := range n {
		l = slices.Insert(l, roll(len(l)+1), i)
	}
	return l
}

// 28.6, W1: a file, what print.Text writes of its test, and files that differ in blanks, comments, brackets and rows have one report.
func TestOneReport(t *testing.T) {
	roll := dice(286)
	files := []string{sb}
	for _, c := range knownFiles() {
		files = append(files, c.file)
	}
	for range 150 {
		files = append(files, someFile(roll, 3))
	}
	for _, b := range files {
		want, err := desk.Run([]byte(b))
		if err != nil {
			t.Fatalf("Run(%s): %v", b, err)
		}
		for range 3 {
			other := loose(t, roll, b)
			if textOf(t, testOf(t, other)) != textOf(t, testOf(t, b)) {
				t.Fatalf("%q is another test than %q", other, b)
			}
			if s, err := desk.Run([]byte(other)); s != want || err != nil {
				t.Fatalf("Run(%q): %s, %v; of %q: %s", other, s, err, b, want)
			}
		}
		if s, err := desk.Run([]byte(textOf(t, testOf(t, b)))); s != want || err != nil {
			t.Fatalf("Run of the text of %q: %s, %v; want %s", b, s, err, want)
		}
	}
}

// 28.7, W3: behind known m K, allow A m tells what run A K tells; by TSO that is what Run answers.
func TestBothEngines(t *testing.T) {
	roll := dice(287)
	unlike := 0
	d := desk.New()
	for range 250 {
		b := someFile(roll, 3)
		do(t, d, put("a", b), "")
		told := map[string]int{}
		for _, k := range []string{"SC", "TSO", "PSO"} {
			s := d.Do("run a " + k)
			told[s]++
			do(t, d, "known m "+k+"\nallow a m\n", s)
			if r, err := desk.Run([]byte(b)); k == "TSO" && (r != s || err != nil) {
				t.Fatalf("Run(%s): %s, %v; run tells %s", b, r, err, s)
			}
		}
		if len(told) > 1 {
			unlike++
		}
	}
	if unlike < 50 {
		t.Errorf("%d programs by which the models part", unlike)
	}
}

// 28.8: a script played line by line tells what it tells as a whole; a refused command leaves items and show as they were.
func TestPiecewise(t *testing.T) {
	roll := dice(288)
	refused := 0
	for range 400 {
		s := someScript(roll, 20)
		whole, pieced := desk.New(), desk.New()
		want, got := whole.Do(s), ""
		for _, p := range pieces(s) {
			before := seen(pieced)
			told := pieced.Do(p.text)
			got += told
			if strings.HasPrefix(told, "! ") {
				refused++
				if after := seen(pieced); after != before {
					t.Fatalf("%q is refused by %s, and %q becomes %q", p.text, told, before, after)
				}
			}
		}
		if got != want || seen(whole) != seen(pieced) {
			t.Fatalf("%s\nas a whole tells\n%s\npiece by piece\n%s", s, want, got)
		}
	}
	if refused < 500 {
		t.Errorf("%d commands are refused", refused)
	}
}

// seen is what items and show tell.
func seen(d *desk.Desk) string {
	s := d.Do("items")
	for l := range strings.SplitSeq(s, "\n") {
		if name, _, ok := strings.Cut(l, " "); ok {
			s += d.Do("show " + name)
		}
	}
	return s
}

// renamed is a test with its threads in another order and other names.
func renamed(t *testing.T, roll func(int) int, x api.Test) api.Test {
	t.Helper()
	p, e := prog.Of(x)
	if e != api.OK {
		t.Fatal(e)
	}
	r := api.Renaming{Threads: order(roll, len(x.Threads)), Regs: make([][]api.Change, len(x.Threads))}
	for i, s := range p.Locs {
		r.Locs = append(r.Locs, api.Change{From: s, To: fmt.Sprintf("%s%d", pick(roll, []string{"l", "EAX", "P"}), i)})
	}
	for k, l := range p.Regs {
		to := strings.Fields("R8 R9 EDX ESI EDI R15 R10 ECX")
		for i, s := range l {
			if s == "EAX" { // it must stay where there is a CMPXCHG
				to[i] = s
			}
			r.Regs[k] = append(r.Regs[k], api.Change{From: s, To: to[i]})
		}
	}
	y, e := canon.Apply(x, r)
	if e != api.OK {
		t.Fatalf("%v under %v: %d", x, r, e)
	}
	y.Name, y.Doc = "other", "another doc"
	slices.Reverse(y.Inits)
	return y
}

// 28.9, W10: behind form N A, same N A tells yes, and show N is the same for all that are the same but for names.
func TestForms(t *testing.T) {
	roll := dice(289)
	d := desk.New()
	for range 200 {
		x := testOf(t, someFile(roll, 3))
		y := renamed(t, roll, x)
		do(t, d, put("a", textOf(t, x))+put("b", textOf(t, y))+"form n a\nform m b\nsame n a\nsame a n\nsame n b\nsame a b\nsame m n\n", strings.Repeat("yes\n", 5))
		shown := d.Do("show n")
		do(t, d, "show m\nform n n\nshow n\n", shown+shown)
		if z, err := litmus.Parse(shown); err != nil || z.Name != "t" || z.Doc != "" {
			t.Fatalf("show: %s", shown)
		}
		// What the models say of it does not hang on names.
		table := strings.Split(strings.TrimSpace(d.Do("table")), "\n")
		for _, l := range table[1:] {
			if l[2:] != table[0][2:] {
				t.Fatalf("table: %v", table)
			}
		}
	}
}

// 28.5: what Run's errors are, by kind: none but an api.Errno or a *api.PosError around one.
func TestKindsOfErrors(t *testing.T) {
	for _, c := range wrongFiles() {
		_, err := desk.Run([]byte(c.file))
		at, ok := err.(*api.PosError)
		if !ok {
			t.Fatalf("%T", err)
		}
		if _, ok := at.Err.(api.Errno); !ok {
			t.Fatalf("%T within", at.Err)
		}
	}
	if _, err := desk.Run(make([]byte, api.MaxText+1)); err != error(api.ErrLong) {
		t.Errorf("%T", err)
	}
}
