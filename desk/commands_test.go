package desk_test

import (
	"fmt"
	"strings"
	"testing"

	"weir/api"
	"weir/desk"
)

// put is the command that puts a file.
func put(name, file string) string { return "test " + name + " <<END\n" + file + "\nEND\n" }

const sbCycle = "PodWR Fre PodWR Fre"

// 28.3: test, cycle, model, known, form, copy, drop, items and show.
func TestItems(t *testing.T) {
	d := desk.New()
	shownSB := "X86 SB\n{\nx=0;\ny=0;\n}\n P0          | P1          ;\n MOV [x],$1  | MOV [y],$1  ;\n MOV EAX,[y] | MOV EAX,[x] ;\nexists 0:EAX=0 /\\ 1:EAX=0\n"
	do(t, d, put("SB", sb)+"show SB\n", shownSB)
	form := "X86 t\n{\n}\n P0          | P1          ;\n MOV [a],$1  | MOV [b],$1  ;\n MOV EAX,[b] | MOV EAX,[a] ;\nexists 0:EAX=0 /\\ 1:EAX=0\n"
	do(t, d, "form f SB\ncycle c Fre PodWR Fre PodWR\nform g c\nshow f\nshow g\n", form+form)
	do(t, d, "show c", "X86 PodWR+Fre+PodWR+Fre\n{\n}\n P0           | P1           ;\n MOV [x0],$1  | MOV [x1],$1  ;\n MOV EAX,[x1] | MOV EAX,[x0] ;\nexists 0:EAX=0 /\\ 1:EAX=0\n")
	do(t, d, "model m <<X\n(* a model *) t let a = (po | rf)\nacyclic (a & W * W) as one empty 0\nX\nshow m\n", "t\nlet a = po | rf\nacyclic a & W * W as one\nempty 0\n")
	do(t, d, "known s SC\nknown u TSO\nknown p PSO\nshow s", "SC\nacyclic po & loc | rf | co | fr as uniproc\nempty rmw & (fr ; co) as atomic\nacyclic po | rf | co | fr as sc\n")
	tso := "TSO\nlet com = rf | co | fr\nacyclic po & loc | com as uniproc\nempty rmw & (fr ; co) as atomic\nlet ppo = po & (M * M \\ W * R)\nlet fence = po ; [F] ; po\nlet implied = po & M * M & (L * _ | _ * L)\nacyclic ppo | fence | implied | rfe | co | fr as tso\n"
	do(t, d, "show u\nshow p\n", tso+strings.NewReplacer("TSO", "PSO", "(M * M \\ W * R)", "R * M", "as tso", "as pso").Replace(tso))
	do(t, d, "items", "SB test\nc test\nf test\ng test\nm model\np model\ns model\nu model\n")
	// What is put takes the place of what was there, whatever it is; form and copy may take that of what they ask for.
	do(t, d, "copy m SB\ncopy SB s\nform c c\ncopy g g\nitems\nshow m\nshow c\nshow g\n", "SB model\nc test\nf test\ng test\nm test\np model\ns model\nu model\n"+shownSB+form+form)
	do(t, d, "drop SB\ndrop m\ndrop u\nitems\nshow SB\nshow s\ndrop m\n", "c test\nf test\ng test\np model\ns model\n! 3\nSC\nacyclic po & loc | rf | co | fr as uniproc\nempty rmw & (fr ; co) as atomic\nacyclic po | rf | co | fr as sc\n! 3\n")
	// A copy stays when what it was made of goes, or becomes something else.
	do(t, d, "copy k f\ndrop f\ncopy l k\nknown k SC\nshow l\n", form)
	do(t, d, "drop c\ndrop g\ndrop k\ndrop l\ndrop p\ndrop s\nitems\ntable\n", "")
}

// 28.3: names rise byte by byte, in items and in table.
func TestRisingNames(t *testing.T) {
	names := []string{"B", "_", "a", "A1", "a+b", "a-b", "a.b", "a1", "aa", "A", "Z"}
	script, items, table := "", "", ""
	for _, s := range names {
		script += put(s, small)
	}
	for _, s := range []string{"A", "A1", "B", "Z", "_", "a", "a+b", "a-b", "a.b", "a1", "aa"} {
		items += s + " test\n"
		table += s + " SC=Ok TSO=Ok PSO=Ok\n"
	}
	do(t, desk.New(), script+"items\ntable\n", items+table)
	do(t, desk.New(), "known m SC\ntable\n"+put("b", sb)+put("a", small)+"known z SC\ntable\n", "a SC=Ok TSO=Ok PSO=Ok\nb SC=No TSO=Ok PSO=Ok\n")
}

// 28.3: table, run and allow of what people know, by every model.
func TestKnown(t *testing.T) {
	d := desk.New()
	d.Do("known SC SC\nknown TSO TSO\nknown PSO PSO\nmodel none <<X\nnone\nX\nmodel void <<X\nvoid empty _\nX\n")
	for _, c := range knownFiles() {
		do(t, d, put("a", c.file)+"table\n", "a SC="+c.sc+" TSO="+c.tso+" PSO="+c.ps+"\n")
		x := testOf(t, c.file)
		for _, w := range [][2]string{{"SC", c.sc}, {"TSO", c.tso}, {"PSO", c.ps}} {
			s := d.Do("run a " + w[0])
			if !strings.HasPrefix(s, "Test "+x.Name+" ") || strings.Count(s, "\n"+w[1]+"\n") != 1 {
				t.Errorf("run %s of %s: %s; want %s", w[0], x.Name, s, w[1])
			}
			do(t, d, "allow a "+w[0], s)
		}
	}
	do(t, d, put("a", sb)+"allow a void\n", "Test SB Allowed\nStates 0\nNo\nWitnesses\nPositive: 0 Negative: 0\nCondition exists 0:EAX=0 /\\ 1:EAX=0\nObservation SB Never 0 0\n")
	if s := d.Do("allow a none"); s != d.Do("run a TSO") {
		t.Errorf("allow without checks: %s", s)
	}
}

// 28.3: same, size, robust and fences.
func TestAsks(t *testing.T) {
	d := desk.New()
	d.Do("cycle a " + sbCycle + "\ncycle b PodWW Rfe PodRR Fre\n" + put("SB", sb) + put("moves", file("t", "", []string{"MOV EAX,$1", "MOV EAX,$1", "MOV EAX,$1", "MOV EAX,$1"}, "exists true")))
	do(t, d, "same a SB\nsame SB a\nsame a a\nsame a b\nsame b SB\n", "yes\nyes\nyes\nno\nno\n")
	do(t, d, "size a SC\nsize moves SC\nsize moves TSO\nsize b SC\n", "13 14 3\n5 4 1\n5 4 1\n13 14 3\n")
	do(t, d, "robust a\nrobust b\nrobust moves\nfences a\nfences b\nfences moves\n", "no\nyes\nyes\n0:1 1:1\nnone\nnone\n")
	// Without room for a fence more there is no set; with room for one, none of one.
	for filler, want := range map[int]string{58: "", 57: "", 56: "0:1 1:1\n"} {
		do(t, d, put("full", file("t", "", []string{"MOV [x],$1;MOV EAX,[y]", "MOV [y],$1;MOV EAX,[x]", strings.Repeat("MFENCE;", filler)}, "exists true"))+"fences full\n", want)
	}
}

// 28.3: of fences the first 50 sets.
func TestManyFences(t *testing.T) {
	d := desk.New()
	thread := func(own, other string, loads int) string {
		return "MOV [" + own + "],$1;" + strings.Repeat("MOV EBX,["+own+"];", loads-1) + "MOV EAX,[" + other + "]"
	}
	for _, c := range [][2]int{{7, 7}, {8, 7}, {5, 10}, {10, 5}, {17, 3}} {
		want := ""
		for j := 1; j <= c[1]; j++ {
			for i := 1; i <= c[0]; i++ {
				want += fmt.Sprintf("0:%d 1:%d\n", i, j)
			}
		}
		if l := strings.SplitAfter(want, "\n"); len(l) > 51 {
			want = strings.Join(l[:50], "")
		}
		do(t, d, put("a", file("t", "", []string{thread("x", "y", c[0]), thread("y", "x", c[1])}, "exists true"))+"fences a\n", want)
	}
}

// 28.3: shows and why.
func TestShows(t *testing.T) {
	d := desk.New()
	d.Do("cycle a " + sbCycle + "\ncycle b PodWW Rfe PodRR Fre\n" + put("SB", sb) + put("bare", "X86 t { } P0 ; exists true") + put("any", strings.Replace(sb, "exists (0:EAX=0 /\\ 1:EAX=0)", "~exists 1:EAX=1", 1)))
	execution := "i:x0=0\ni:x1=0\n0:0:Wx0=1\n0:1:Rx1=0 <- i:x1\n1:0:Wx1=1\n1:1:Rx0=0 <- i:x0\nco: i:x0 < 0:0:Wx0\nco: i:x1 < 1:0:Wx1\n"
	for _, w := range []string{"TSO", "PSO"} {
		do(t, d, "shows a "+w, "0:EAX=0; 1:EAX=0; x0=1; x1=1;\n0:s 0:s 1:s 1:s 0:f 1:f"+map[string]string{"TSO": "", "PSO": ":1"}[w]+"\n"+execution)
		do(t, d, "why a "+w, "never\n")
	}
	do(t, d, "shows a SC\nwhy a SC\n", "never\nglobal: 0:0:Wx0 -po-> 0:1:Rx1 -fr-> 1:0:Wx1 -po-> 1:1:Rx0 -fr-> 0:0:Wx0\n")
	do(t, d, "shows b SC\nshows b TSO\nshows b PSO\n", "never\nnever\n0:EAX=1; 0:EBX=0; x0=1; x1=1;\n1:s 1:s 1:f 0:s 0:s 1:f:1\ni:x0=0\ni:x1=0\n0:0:Rx0=1 <- 1:1:Wx0\n0:1:Rx1=0 <- i:x1\n1:0:Wx1=1\n1:1:Wx0=1\nco: i:x0 < 1:1:Wx0\nco: i:x1 < 1:0:Wx1\n")
	do(t, d, "why b SC\nwhy b TSO\nwhy b PSO\n", "global: 0:0:Rx0 -po-> 0:1:Rx1 -fr-> 1:0:Wx1 -po-> 1:1:Wx0 -rf-> 0:0:Rx0\nglobal: 0:0:Rx0 -po-> 0:1:Rx1 -fr-> 1:0:Wx1 -po-> 1:1:Wx0 -rfe-> 0:0:Rx0\nnever\n")
	// The quantifier is not asked: it is the condition that holds.
	do(t, d, "shows any SC\n", "0:EAX=0; 1:EAX=1; x=1; y=1;\n0:s 0:s 1:s 1:s\ni:x=0\ni:y=0\n0:0:Wx=1\n0:1:Ry=0 <- i:y\n1:0:Wy=1\n1:1:Rx=1 <- 0:0:Wx\nco: i:x < 0:0:Wx\nco: i:y < 1:0:Wy\n")
	// A final state, a script and an execution of nothing: two lines without a word.
	do(t, d, "shows bare SC\nwhy bare SC\n", "\n\nnever\n")
	do(t, d, put("c", "X86 t { x=1 } P0 ; forall x=1")+"shows c PSO\nshow c\n", "x=1;\n\ni:x=1\nX86 t\n{\nx=1;\n}\n P0 ;\nforall x=1\n")
	// Two axioms are broken: a line each.
	do(t, d, put("c", file("t", "", []string{"MOV [x],$1; MOV EAX,[x]"}, "exists 0:EAX=0"))+"why c TSO\nwhy c SC\n", "uniproc: 0:0:Wx -po-> 0:1:Rx -fr-> 0:0:Wx\nuniproc: 0:0:Wx -po-> 0:1:Rx -fr-> 0:0:Wx\nglobal: 0:0:Wx -po-> 0:1:Rx -fr-> 0:0:Wx\n")
}

// 28.3: play and story.
func TestPlays(t *testing.T) {
	d := desk.New()
	d.Do("cycle a " + sbCycle + "\n" + put("SB", sb) + put("bare", "X86 t { } P0 ; exists true") + put("add", file("t", "x=5; 0:EAX=2", []string{"LOCK XADD [x],EAX; MFENCE"}, "exists true")))
	for _, c := range [][2]string{
		{"play SB TSO 0:s 1:s 0:s 1:s 0:f 1:f", "6 6\n0:EAX=0; 1:EAX=0; x=1; y=1;\n"},
		{"play SB TSO 1:f 0:s 1:s 0:s 1:s 0:f 1:f", "6 7\n0:EAX=0; 1:EAX=0; x=1; y=1;\n"},
		{"play SB PSO 0:s 1:s 0:s 1:s 0:f 1:f", "5 6\nunfinished\n"}, {"play SB PSO 0:s 1:s 0:s 1:s 0:f 1:f:1 0:f:1", "6 7\n0:EAX=0; 1:EAX=0; x=1; y=1;\n"},
		{"play SB SC 0:s 1:s 0:s 1:s", "4 4\n0:EAX=1; 1:EAX=1; x=1; y=1;\n"}, {"play SB SC 0:f 9999:s 4:s 1:f:9999", "0 4\nunfinished\n"},
		{"play bare SC 0:s", "0 1\n\n"}, {"play bare TSO 0:f:1", "0 1\n\n"},
		{"play a TSO 0:f 0:s 1:s\nplay a TSO 0:s 0:s 0:f 1:s 1:s 1:f", "2 3\nunfinished\n6 6\n0:EAX=0; 1:EAX=1; x0=1; x1=1;\n"},
		{"play a TSO 0:s 10000:s", "! 150 1 5\n"}, {"play a TSO 0:s\t\r0:s:0", "! 150 1 5\n"}, {"story a TSO \xff", "! 150 1 1\n"}, {"story a TSO 0:s 00:s", "! 150 1 5\n"},
		{"story SB TSO 0:s 0:s 1:s 1:s 0:f 1:f", "0: MOV [x],$1, x=1 waits\n0: MOV EAX,[y] reads 0\n1: MOV [y],$1, y=1 waits\n1: MOV EAX,[x] reads 0\n0: x=1 reaches memory\n1: y=1 reaches memory\nend: 0:EAX=0; 1:EAX=0; x=1; y=1;\n"},
		{"story SB SC 0:f 0:s 2:s 0:s 0:s", "0: MOV [x],$1, x=1 reaches memory\n0: MOV EAX,[y] reads 0\n"},
		{"story SB TSO 0:f", ""}, {"story bare PSO 0:s", "end: \n"},
		{"story add SC 0:f 0:s 0:s", "0: LOCK XADD [x],EAX reads 5, x=7 reaches memory\n0: MFENCE goes on\nend: 0:EAX=5; x=7;\n"},
		{"story add TSO 0:s 0:s 0:s 0:f 0:s 0:s", "0: LOCK XADD [x],EAX takes the lock\n0: LOCK XADD [x],EAX reads 5, x=7 waits\n0: x=7 reaches memory\n0: LOCK XADD [x],EAX gives the lock back\n0: MFENCE goes on\nend: 0:EAX=5; x=7;\n"},
	} {
		do(t, d, c[0], c[1])
	}
}

// 28.3: tests that are too long for a text, or whose forms are: show, form and same are refused, the engines are asked.
func TestLongTests(t *testing.T) {
	d := desk.New()
	rows := 100000
	do(t, d, put("long", "X86 t { } P0 ; "+strings.Repeat("MOV R8,R9;", rows)+"exists true")+put("s", small), "")
	do(t, d, "show long\nform f long\nform long long\nsame s long\nsame long s\nitems\nfences long\nrobust long", "! 1\n! 1\n! 1\n! 1\n! 1\nlong test\ns test\nnone\nyes\n")
	do(t, d, "play long SC "+strings.Repeat("0:s ", rows), fmt.Sprintf("%d %d\n0:R8=0; 0:R9=0;\n", rows, rows))
	rows = (api.MaxText - 100) / len(" MOV R8,$1 ;\n") // the form has EAX for R8
	do(t, d, put("long", "X86 t { } P0 ; "+strings.Repeat("MOV R8,$1;", rows)+"exists true")+"form f long\nsame long s\n", "! 1\n! 1\n")
	if s := d.Do("show long"); !strings.HasPrefix(s, "X86 t\n{\n}\n P0        ;\n MOV R8,$1 ;\n") || strings.Count(s, "\n") != rows+5 {
		t.Errorf("show: %s", cutShort(s))
	}
	rows = 2000
	do(t, d, put("long", "X86 t { } P0 ; "+strings.Repeat("MOV R8,$1;", rows)+"exists true")+"size long SC\n", fmt.Sprintln(rows+1, rows, 1))
	do(t, d, "shows long TSO\n", "0:R8=1;\n"+strings.TrimSpace(strings.Repeat("0:s ", rows))+"\n")
}

// 28.3: unruly scripts, held against a desk in the chapter's words.
func TestUnrulyScripts(t *testing.T) {
	roll := dice(283)
	told := map[string]int{}
	for range 400 {
		d, p := desk.New(), newPlain()
		for range 3 {
			s := someScript(roll, 12)
			want := p.do(t, s)
			do(t, d, s, want)
			if t.Failed() {
				return
			}
			for l := range strings.SplitSeq(want, "\n") {
				told[strings.Split(l, " ")[0]]++
				if strings.HasPrefix(l, "! ") {
					told[l]++
				}
			}
		}
	}
	for _, s := range []string{"Test", "yes", "no", "never", "none", "unfinished", "co:", "global:", "0:", "! 3", "! 280", "! 281", "! 260", "! 70 1 1"} {
		if told[s] < 20 {
			t.Errorf("%s is told %d times", s, told[s])
		}
	}
}

// someScript is an unruly script of so many commands: most of them are right.
func someScript(roll func(int) int, n int) string {
	names := []string{"a", "b", "c", "SB", "m", "u"}
	end := func() string { return pick(roll, []string{"X", "END", "<", "a"}) }
	var out strings.Builder
	for range n {
		var l []string
		form := strings.Fields(pick(roll, strings.Split(forms, "\n")))
		if roll(4) == 0 { // without these there is nothing to ask
			form = strings.Fields(pick(roll, []string{"test N <<", "cycle N E", "known N K", "model N <<"}))
		}
		for _, f := range form {
			switch f {
			case "A", "B", "N":
				f = pick(roll, names)
			case "K":
				f = pick(roll, []string{"SC", "TSO", "PSO"})
			case "E":
				f = pick(roll, []string{sbCycle, sbCycle, "Fre PodWR Fre PodWR", "PodWW Rfe PodRR Fre", "PodWW Coe PodWW Coe", "MFencedWR Fre PodWR Fre", "Rfi PodRR Fre Rfi PodRR Fre", "PodWR Fre", "Fre Pod"})
			case "P":
				f = someScriptWords(roll)
			case "<<":
				mark := end()
				f = "<<" + mark + "\n" + someBlock(roll, form[0]) + "\n" + mark
			}
			l = append(l, f)
		}
		switch roll(20) {
		case 0: // a word more, or less, or another one
			l = append(l[:1+roll(len(l))], "XY")
		case 1:
			l = l[:1+roll(len(l))]
		case 2:
			l[roll(len(l))] = pick(roll, []string{"9", "fly", "SC", "a", "#", "<<X", "PodWR", "0:x"})
		}
		out.WriteString(pick(roll, []string{"", "", " ", "\t"}) + strings.Join(l, pick(roll, []string{" ", " ", "  ", "\t"})) + pick(roll, []string{"\n", "\n", " \r\n", "\n\n# a line\n"}))
	}
	return out.String()
}

func someScriptWords(roll func(int) int) string {
	var l []string
	for range 1 + roll(14) {
		l = append(l, pick(roll, []string{"0:s", "0:s", "1:s", "1:s", "0:f", "1:f", "0:f:1", "1:f:1", "2:s"}))
	}
	if roll(10) == 0 {
		l[roll(len(l))] = "0:x"
	}
	return strings.Join(l, " ")
}

// someBlock is a file, or a model, with or without something wrong.
func someBlock(roll func(int) int, command string) string {
	if command == "model" {
		return pick(roll, []string{
			"t", "SC acyclic po | rf | co | fr as sc", "t\nacyclic rf | co | fr\n\nempty rmw & (fr ; co)", "t irreflexive fr ; po", "t let a = W * R empty a & po as none",
			"", "acyclic", "t acyclic W", "t acyclic xx",
		})
	}
	if roll(8) == 0 {
		return pick(roll, wrongFiles()).file
	}
	return someFile(roll, 2)
}
