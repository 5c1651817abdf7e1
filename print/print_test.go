package print_test

import (
	"fmt"
	"math"
	"slices"
	"strings"
	"testing"

	"weir/api"
	"weir/cond"
	"weir/lexis"
	"weir/litmus"
	"weir/print"
)

func checkText(t *testing.T, x api.Test, want string) {
	t.Helper()
	if got, err := print.Text(x); got != want || err != api.OK {
		t.Errorf("Text(%.300s): %.300q, %d; want %.300q", fmt.Sprint(x), got, err, want)
	}
}

func checkRefused(t *testing.T, what string, x api.Test, want api.Errno) {
	t.Helper()
	if got, err := print.Text(x); got != "" || err != want {
		t.Errorf("Text of a test with %s: %.300q, %d; want %d", what, got, err, want)
	}
}

// example is the chapter's second example.
func example() api.Test {
	return api.Test{
		Name:    "SB",
		Inits:   []api.Init{{Ref: loc("x")}},
		Threads: [][]api.Instr{{{Op: api.OStoreImm, Loc: "x", Imm: 1}, {Op: api.OFence}}, {{Op: api.OLoad, Reg: "EAX", Loc: "x"}}},
		Watch:   []api.Ref{loc("x")},
		Quant:   api.Exists,
		Cond:    api.Cond{is(reg(1, "EAX"), 0)},
	}
}

// 8.2: the chapter's examples.
func TestExamples(t *testing.T) {
	checkText(t, example(), `X86 SB
{
x=0;
}
 P0         | P1          ;
 MOV [x],$1 | MOV EAX,[x] ;
 MFENCE     |             ;
locations [x;]
exists 1:EAX=0
`)
	x := example()
	x.Threads = nil
	checkRefused(t, "no threads", x, api.ErrTest)
	x = example()
	x.Inits = append(x.Inits, api.Init{Ref: reg(10000, "EAX"), Value: 1})
	checkRefused(t, "10000:EAX=1", x, api.ErrTest)
}

// 8.2: each part of a file, written out.
func TestFiles(t *testing.T) {
	checkText(t, api.Test{Name: "t", Threads: [][]api.Instr{nil}, Quant: api.Forall, Cond: api.Cond{{Op: api.CTrue}}}, "X86 t\n{\n}\n P0 ;\nforall true\n")
	checkText(t, api.Test{
		Name:    "A.b+c-1",
		Doc:     "one; two",
		Inits:   []api.Init{{Ref: reg(0, "EAX"), Value: -1}, {Ref: loc("x"), Value: 16}, {Ref: loc("x"), Value: 16}, {Ref: reg(9999, "no.register"), Value: -1 << 63}},
		Threads: [][]api.Instr{nil, {{Op: api.OMovReg, Reg: "a", Src: "b"}}, {{Op: api.OFence}, {Op: api.OCmpxchg, Loc: "x", Src: "EBX"}, {Op: api.OXadd, Loc: "y", Reg: "ECX"}}, {}},
		Watch:   []api.Ref{loc("z"), reg(3, "EAX"), loc("z")},
		Quant:   api.NotExists,
		Cond:    api.Cond{is(loc("x"), 1), is(reg(0, "EAX"), -2), {Op: api.COr, A: 0, B: 1}, {Op: api.CNot, A: 2}},
	}, `X86 A.b+c-1
"one; two"
{
0:EAX=-1;
x=16;
x=16;
9999:no.register=-9223372036854775808;
}
 P0 | P1      | P2                   | P3 ;
    | MOV a,b | MFENCE               |    ;
    |         | LOCK CMPXCHG [x],EBX |    ;
    |         | LOCK XADD [y],ECX    |    ;
locations [z; 3:EAX; z;]
~exists ~(x=1 \/ 0:EAX=-2)
`)
	many := api.Test{Name: "t", Threads: make([][]api.Instr, 12), Quant: api.Exists, Cond: api.Cond{{Op: api.CTrue}}}
	many.Threads[10] = []api.Instr{{Op: api.OFence}}
	checkText(t, many, `X86 t
{
}
 P0 | P1 | P2 | P3 | P4 | P5 | P6 | P7 | P8 | P9 | P10    | P11 ;
    |    |    |    |    |    |    |    |    |    | MFENCE |     ;
exists true
`)
}

// checkTest holds a test's text against the chapter's words, and reads it back.
func checkTest(t *testing.T, x api.Test) string {
	t.Helper()
	checkText(t, x, fileWords(x))
	s, _ := print.Text(x)
	if back, err := litmus.Parse(s); err != nil || !same(back, x) {
		t.Errorf("Parse(%.300q): %.300s, %v; want %.300s", s, fmt.Sprint(back), err, fmt.Sprint(x))
	}
	return s
}

// 8.2, 8.3: unruly tests, there and back.
func TestThereAndBack(t *testing.T) {
	roll := dice(8)
	for range 6000 {
		checkTest(t, randomTest(roll))
	}
}

// 8.2, 8.3: tests of all small shapes: how long each column is.
func TestShapes(t *testing.T) {
	roll := dice(83)
	for shape := range 4 * 4 * 4 * 4 {
		x := api.Test{Name: "t", Quant: api.Exists, Cond: api.Cond{{Op: api.CTrue}}}
		for n := shape; len(x.Threads) < 4; n /= 4 {
			var l []api.Instr
			for range n % 4 {
				l = append(l, randomInstr(roll, func() string { return []string{"x", "EAX", "a.long+name"}[roll(3)] }, func() int64 { return int64(roll(2000)) - 1000 }))
			}
			x.Threads = append(x.Threads, l)
			checkTest(t, x)
		}
	}
}

// 8.2, 8.3: every byte in a Doc.
func TestDocs(t *testing.T) {
	for b := range 256 {
		for _, doc := range []string{"%s", "%sx", "x%s", " x%sy ", "a longer text, with %s within", "é%sé", "\xff%s"} {
			x := example()
			x.Doc = fmt.Sprintf(doc, string([]byte{byte(b)}))
			if b == '"' || b == '\n' {
				checkRefused(t, fmt.Sprintf("the Doc %q", x.Doc), x, api.ErrTest)
			} else {
				checkTest(t, x)
			}
		}
	}
}

// 8.2: each part of a test that can be wrong, alone.
func TestWrong(t *testing.T) {
	refuse := func(what string, spoil func(x *api.Test)) {
		t.Helper()
		x := example()
		x.Inits = append(x.Inits, api.Init{Ref: reg(0, "EAX")}, api.Init{Ref: loc("y")})
		x.Watch = append(x.Watch, loc("y"), loc("z"))
		x.Threads = append(x.Threads, []api.Instr{{Op: api.OFence}})
		checkTest(t, x)
		spoil(&x)
		checkRefused(t, what, x, api.ErrTest)
		// ErrTest is named first, however long the text is.
		x.Inits = append(slices.Repeat([]api.Init{{Ref: loc(strings.Repeat("n", 64))}}, 1<<14), x.Inits...)
		checkRefused(t, what+" and much more", x, api.ErrTest)
	}
	for _, s := range someOthers() {
		refuse("a Name that is none", func(x *api.Test) { x.Name = s })
		for i := range 3 {
			refuse("a wrong setting", func(x *api.Test) { x.Inits[i].Ref.Name = s })
			refuse("a wrong watched reference", func(x *api.Test) { x.Watch[i].Name = s })
		}
		refuse("a wrong instruction", func(x *api.Test) { x.Threads[0][0].Loc = s })
	}
	for _, k := range []int{math.MinInt, -2, 10000, math.MaxInt} {
		for i := range 3 {
			refuse("a setting's thread", func(x *api.Test) { x.Inits[i].Ref.Thread = k })
			refuse("a watched thread", func(x *api.Test) { x.Watch[i].Thread = k })
		}
		refuse("a condition's thread", func(x *api.Test) { x.Cond[0].Ref.Thread = k })
	}
	for _, at := range [][2]int{{0, 0}, {0, 1}, {1, 0}, {2, 0}} {
		for _, in := range []api.Instr{{}, {Op: 10}, {Op: -1}, {Op: api.OFence, Imm: 1}, {Op: api.OFence, Reg: "EAX"}, {Op: api.OLoad, Reg: "EAX"}, {Op: api.OXchg, Loc: "x", Src: "EAX"}} {
			refuse("a wrong instruction", func(x *api.Test) { x.Threads[at[0]][at[1]] = in })
		}
	}
	for _, q := range []int{math.MinInt, -1, 0, 4, 257, math.MaxInt} {
		refuse("a wrong quantifier", func(x *api.Test) { x.Quant = q })
	}
	for _, d := range []string{"\"", "\n", "a\"", "a\r\n", strings.Repeat("a", 100) + "\"", "\n" + strings.Repeat("a", 100)} {
		refuse("a wrong Doc", func(x *api.Test) { x.Doc = d })
	}
	refuse("no threads", func(x *api.Test) { x.Threads = nil })
	refuse("no threads, but a list", func(x *api.Test) { x.Threads = [][]api.Instr{} })
	refuse("everything wrong", func(x *api.Test) { *x = api.Test{} })
}

// 8.2: what is no condition, and one whose text has too many brackets, cannot be written; the greatest ones can.
func TestConditions(t *testing.T) {
	x := example()
	for _, c := range []api.Cond{
		nil,
		{},
		{{}},
		{{Op: 6}},
		{{Op: api.CTrue}, {Op: api.CTrue}},
		{{Op: api.CTrue, Value: 1}},
		{{Op: api.CNot}},
		{is(loc("1"), 1)},
		{is(loc(""), 1)},
		append(slices.Repeat(api.Cond{{Op: api.CTrue}}, 1), api.Node{Op: api.CAnd}),
	} {
		x.Cond = c
		if cond.Check(c) != api.ErrCond {
			t.Fatalf("%v makes a condition", c)
		}
		checkRefused(t, fmt.Sprint(c), x, api.ErrTest)
	}
	for _, n := range []int{1, 63, 64, 65, 1000} {
		x.Cond = api.Cond{is(loc("x"), 1)}
		for i := range n {
			x.Cond = append(x.Cond, api.Node{Op: api.CNot, A: i})
		}
		if n <= api.MaxDepth {
			checkTest(t, x)
		} else {
			checkRefused(t, fmt.Sprint(n, " times not"), x, api.ErrTest)
		}
	}
	for _, n := range []int{1, 511, 512, 2000} {
		x.Cond = api.Cond{is(loc(strings.Repeat("n", 64)), -1<<63)}
		for len(x.Cond) < 2*n-1 {
			x.Cond = append(x.Cond, is(reg(9999, strings.Repeat("r", 64)), -1<<63), api.Node{Op: api.CAnd, A: len(x.Cond) - 1, B: len(x.Cond)})
		}
		if n <= 512 {
			checkTest(t, x)
		} else {
			checkRefused(t, fmt.Sprint(n, " equations"), x, api.ErrTest)
		}
	}
}

// 8.4: what Parse reads can be written, whatever the file is; the tests of chapter 9 too.
func TestWhatIsRead(t *testing.T) {
	roll := dice(84)
	words := strings.Fields(`X86 x P0 P1 MOV MFENCE XCHG LOCK CMPXCHG XADD locations exists forall true 0 -1 9999 "s" "" { } [ ] ( ) ; : , | = $ ~ /\ \/ RAX x=1; ;; |;`)
	read := 0
	for range 15000 {
		l, err := lexis.All((&loose{roll: roll}).file(randomTest(roll)))
		if err != nil {
			t.Fatal(err)
		}
		at := roll(len(l))
		s, _ := lexis.Write(l[:at])
		behind, _ := lexis.Write(l[min(len(l), at+roll(3)):])
		x, err := litmus.Parse(s + " " + words[roll(len(words))] + " " + behind)
		if err != nil {
			continue
		}
		read++
		checkTest(t, x)
	}
	if read < 500 {
		t.Errorf("only %d files were read", read)
	}
}

// 8.4: a test of the greatest bounds that chapter 9 has.
func TestGreatest(t *testing.T) {
	registers := []string{"EAX", "EBX", "ECX", "EDX", "ESI", "EDI", "EBP", "ESP"}
	x := api.Test{Name: strings.Repeat("n", 64), Quant: api.NotExists, Doc: "greatest"}
	for k := range 16 {
		x.Inits = append(x.Inits, api.Init{Ref: loc(strings.Repeat("l", 60) + fmt.Sprint(k)), Value: math.MinInt64})
	}
	for k := range 4 {
		var l []api.Instr
		for _, r := range registers {
			x.Inits = append(x.Inits, api.Init{Ref: reg(k, r), Value: math.MinInt64})
			x.Watch = append(x.Watch, reg(k, r))
			l = append(l, api.Instr{Op: api.OMovImm, Reg: r, Imm: math.MinInt64})
		}
		for i := range 6 {
			l = append(l, api.Instr{Op: api.OXadd, Loc: x.Inits[i].Ref.Name, Reg: "ESP"})
		}
		x.Threads = append(x.Threads, l)
	}
	x.Cond = api.Cond{is(x.Inits[0].Ref, math.MinInt64)}
	for _, i := range x.Inits[1:] {
		x.Cond = append(x.Cond, is(i.Ref, i.Value), api.Node{Op: api.COr, A: len(x.Cond) - 1, B: len(x.Cond)})
	}
	checkTest(t, x)
}

// 8.4: where a file's columns are long and its text is short, ErrLong keeps what is read from a text.
func TestReadAndTooLong(t *testing.T) {
	n := 600
	s := "X86 t {} P0"
	for k := 1; k < n; k++ {
		s += fmt.Sprint("|P", k)
	}
	s += ";" + strings.Repeat(strings.Repeat("|", n-1)+"MFENCE;", n) + "forall true"
	x, err := litmus.Parse(s)
	if err != nil {
		t.Fatal(err)
	}
	checkRefused(t, "many cells", x, api.ErrLong)
	x.Threads = x.Threads[n-200:]
	checkTest(t, x)
}

// 8.5: whatever a file looks like, its test has one text, and that has itself.
func TestOneText(t *testing.T) {
	roll := dice(85)
	for range 1500 {
		x := randomTest(roll)
		want := fileWords(x)
		for _, s := range []string{(&loose{roll: roll}).file(x), (&loose{roll: roll}).file(x), want} {
			y, err := litmus.Parse(s)
			if err != nil {
				t.Fatalf("Parse(%q): %v", s, err)
			}
			checkText(t, y, want)
		}
	}
}

// 8.5, R3: lists that are nil and lists that are empty are the same, and spare room is not seen.
func TestEmptyLists(t *testing.T) {
	x := api.Test{Name: "t", Threads: [][]api.Instr{nil, nil}, Quant: api.Exists, Cond: api.Cond{{Op: api.CTrue}}}
	want := fileWords(x)
	checkText(t, x, want)
	x.Inits, x.Watch, x.Threads = []api.Init{}, []api.Ref{}, [][]api.Instr{{}, {}}
	checkText(t, x, want)
	x.Inits, x.Watch = make([]api.Init, 0, 5), make([]api.Ref, 0, 5)
	x.Threads = [][]api.Instr{make([]api.Instr, 0, 5), {}, nil}[:2]
	x.Cond = append(make(api.Cond, 0, 5), x.Cond...)
	checkText(t, x, want)
}

// 8.6: in each row the | stand at the same columns, and so does the ; .
func TestColumns(t *testing.T) {
	roll := dice(86)
	for range 1500 {
		x := randomTest(roll)
		s, err := print.Text(x)
		if err != api.OK {
			t.Fatalf("Text(%v): %d", x, err)
		}
		_, behind, _ := strings.Cut(s, "\n}\n")
		lines := strings.Split(behind, "\n")
		rows := 1
		for _, l := range x.Threads {
			rows = max(rows, len(l)+1)
		}
		for i, line := range lines {
			if (i < rows) != strings.HasSuffix(line, " ;") {
				t.Fatalf("%q: line %d of %d rows", s, i, rows)
			}
			if i < rows && (len(line) != len(lines[0]) || !slices.Equal(places(line), places(lines[0])) || len(places(line)) != len(x.Threads)) {
				t.Errorf("%q: row %d stands otherwise than the first", s, i)
			}
		}
	}
}

func places(line string) []int {
	var l []int
	for i := range len(line) {
		if line[i] == '|' || line[i] == ';' {
			l = append(l, i)
		}
	}
	return l
}
