package desk_test

import (
	"fmt"
	"strings"
	"testing"

	"weir/api"
	"weir/desk"
	"weir/litmus"
	"weir/print"
	"weir/prog"
)

// dice is a row of numbers that look unruly and are the same at every run.
func dice(seed uint64) func(n int) int {
	return func(n int) int {
		seed += 0x9e3779b97f4a7c15
		z := (seed ^ seed>>30) * 0xbf58476d1ce4e5b9
		z = (z ^ z>>27) * 0x94d049bb133111eb
		return int((z ^ z>>31) % uint64(n))
	}
}

func pick[T any](roll func(int) int, l []T) T { return l[roll(len(l))] }

// file is a file: settings, threads whose instructions stand with a ; between them, and what is behind.
func file(name, settings string, threads []string, rest string) string {
	rows := 0
	var cells [][]string
	for k, thread := range threads {
		l := append([]string{fmt.Sprint("P", k)}, strings.FieldsFunc(thread, func(r rune) bool { return r == ';' })...)
		cells = append(cells, l)
		rows = max(rows, len(l))
	}
	var out strings.Builder
	fmt.Fprintf(&out, "X86 %s\n{ %s }\n", name, settings)
	for i := range rows {
		for k, l := range cells {
			if k > 0 {
				out.WriteString(" |")
			}
			if i < len(l) {
				out.WriteString(" " + strings.TrimSpace(l[i]))
			}
		}
		out.WriteString(" ;\n")
	}
	return out.String() + rest + "\n"
}

// sb is the first file of the chapter's examples.
const sb = "X86 SB\n{ x=0; y=0; }\n P0 | P1 ;\n MOV [x],$1 | MOV [y],$1 ;\n MOV EAX,[y] | MOV EAX,[x] ;\nexists (0:EAX=0 /\\ 1:EAX=0)\n"

// knownFile is a file that people know, and what the three models say of it.
type knownFile struct {
	file        string
	sc, tso, ps string
}

func knownFiles() []knownFile {
	return []knownFile{
		{sb, "No", "Ok", "Ok"},
		{file("SB+mfences", "", []string{"MOV [x],$1; MFENCE; MOV EAX,[y]", "MOV [y],$1; MFENCE; MOV EAX,[x]"}, `exists 0:EAX=0 /\ 1:EAX=0`), "No", "No", "No"},
		{file("SB+mfence+po", "", []string{"MOV [x],$1; MFENCE; MOV EAX,[y]", "MOV [y],$1; MOV EAX,[x]"}, `~exists 0:EAX=0 /\ 1:EAX=0`), "Ok", "No", "No"},
		{file("SB+xchgs", "0:EBX=1; 1:EBX=1", []string{"XCHG [x],EBX; MOV EAX,[y]", "XCHG [y],EBX; MOV EAX,[x]"}, `exists 0:EAX=0 /\ 1:EAX=0`), "No", "No", "No"},
		{file("SB+rfi-pos", "", []string{"MOV [x],$1; MOV EAX,[x]; MOV EBX,[y]", "MOV [y],$1; MOV EAX,[y]; MOV EBX,[x]"}, `exists 0:EAX=1 /\ 0:EBX=0 /\ 1:EAX=1 /\ 1:EBX=0`), "No", "Ok", "Ok"},
		{file("MP", "", []string{"MOV [x],$1; MOV [y],$1", "MOV EAX,[y]; MOV EBX,[x]"}, `exists 1:EAX=1 /\ 1:EBX=0`), "No", "No", "Ok"},
		{file("MP+mfence+po", "", []string{"MOV [x],$1; MFENCE; MOV [y],$1", "MOV EAX,[y]; MOV EBX,[x]"}, `forall ~(1:EAX=1 /\ 1:EBX=0)`), "Ok", "Ok", "Ok"},
		{file("LB", "", []string{"MOV EAX,[x]; MOV [y],$1", "MOV EAX,[y]; MOV [x],$1"}, `exists 0:EAX=1 /\ 1:EAX=1`), "No", "No", "No"},
		{file("S", "", []string{"MOV [x],$2; MOV [y],$1", "MOV EAX,[y]; MOV [x],$1"}, `exists 1:EAX=1 /\ x=2`), "No", "No", "Ok"},
		{file("R", "", []string{"MOV [x],$1; MOV [y],$1", "MOV [y],$2; MOV EAX,[x]"}, `exists 1:EAX=0 /\ y=2`), "No", "Ok", "Ok"},
		{file("W2+2W", "", []string{"MOV [x],$2; MOV [y],$1", "MOV [y],$2; MOV [x],$1"}, `~exists x=2 /\ y=2`), "Ok", "Ok", "No"},
		{file("IRIW", "", []string{"MOV [x],$1", "MOV [y],$1", "MOV EAX,[x]; MOV EBX,[y]", "MOV EAX,[y]; MOV EBX,[x]"}, `exists 2:EAX=1 /\ 2:EBX=0 /\ 3:EAX=1 /\ 3:EBX=0`), "No", "No", "No"},
		{file("WRC", "", []string{"MOV [x],$1", "MOV EAX,[x]; MOV [y],$1", "MOV EAX,[y]; MOV EBX,[x]"}, `forall ~(1:EAX=1 /\ 2:EAX=1 /\ 2:EBX=0)`), "Ok", "Ok", "Ok"},
		{file("adds", "0:EAX=1; 1:EAX=1", []string{"LOCK XADD [x],EAX", "LOCK XADD [x],EAX"}, `forall x=2 /\ (0:EAX=0 /\ 1:EAX=1 \/ 0:EAX=1 /\ 1:EAX=0)`), "Ok", "Ok", "Ok"},
		{file("tries", "0:EBX=1; 1:EBX=2", []string{"LOCK CMPXCHG [x],EBX", "LOCK CMPXCHG [x],EBX"}, `~exists x=1 /\ 1:EAX=0`), "Ok", "Ok", "Ok"},
	}
}

// edgeFiles is right files at the chapter's and the limits' edges.
func edgeFiles() []string {
	var settings, conds []string
	for i := range 16 {
		settings = append(settings, fmt.Sprintf("l%d=%d", i, i))
	}
	regs := strings.Fields("EAX EBX ECX EDX ESI EDI EBP ESP")
	for k := range 4 {
		for _, s := range regs {
			settings = append(settings, fmt.Sprintf("%d:%s=%d", k, s, k))
		}
	}
	for range 512 {
		conds = append(conds, "l1=1")
	}
	return []string{
		"X86 t { } P0 ; exists true",
		"X86 t \"a doc\" { } P0 | P1 | P2 | P3 ; | | | ; forall ~true",
		"(* a (* b *) *) X86 t { x=1 } P0 ; locations [x;] exists true",
		file("t", strings.Join(settings, ";"), []string{"MOV [l3],$1", "MOV EAX,[l3]; MFENCE", "", "MOV EAX,EBX"}, "locations [0:ESP; 3:EAX; l15; l0] exists l3=1"),
		file("t", "", []string{strings.Repeat("MFENCE;", 64)}, "exists true"),
		file("t", "x=7", []string{strings.Repeat("MOV EAX,[x];", 63)}, "forall 0:EAX=7"),
		file("t", "l1=1", []string{""}, "exists "+strings.Join(conds, ` /\ `)),
		file("t", "x=1", []string{""}, "exists "+strings.Repeat("(", 64)+"x=1"+strings.Repeat(")", 64)),
		file("X86", "exists=1; true=2", []string{"MOV [MOV],$-0x8000000000000000; MOV R15,[locations]"}, "locations [true; 0:R15; [MOV];] forall true=2 /\\ MOV=0x8000000000000000"),
	}
}

// someProgram is a few unruly threads of at most so many instructions, small enough for all that is asked of it.
func someProgram(roll func(int) int, most int) []string {
	var l []string
	for range 1 + roll(3) {
		var thread []string
		for range roll(most + 1) {
			loc, reg := pick(roll, []string{"x", "y"}), pick(roll, []string{"EAX", "EBX"})
			thread = append(thread, pick(roll, []string{
				"MOV [" + loc + "],$1", "MOV [" + loc + "],$2", "MOV [" + loc + "]," + reg, "MOV " + reg + ",[" + loc + "]", "MOV " + reg + ",[" + loc + "]",
				"MOV " + reg + ",$1", "MOV EAX,EBX", "MFENCE", "XCHG [" + loc + "]," + reg, "LOCK XADD [" + loc + "]," + reg, "LOCK CMPXCHG [" + loc + "],EBX",
			}))
		}
		l = append(l, strings.Join(thread, ";"))
	}
	return l
}

// someFile is an unruly file of which nothing is wrong.
func someFile(roll func(int) int, most int) string {
	threads := someProgram(roll, most)
	if roll(2) == 0 { // a shape at which the models part
		threads = pick(roll, [][]string{
			{"MOV [x],$1; MOV EAX,[y]", "MOV [y],$1; MOV EAX,[x]"}, {"MOV [x],$1; MOV [y],$1", "MOV EAX,[y]; MOV EBX,[x]"},
			{"MOV [x],$2; MOV [y],$1", "MOV [y],$2; MOV [x],$1"}, {"MOV [x],$1; MOV EAX,[x]; MOV EBX,[y]", "MOV [y],$1; MFENCE; MOV EAX,[x]"},
		})
	}
	settings := pick(roll, []string{"x=0; y=0; 0:EAX=0; 0:EBX=0", "x=1; y=2; 0:EAX=0; 0:EBX=1", "0:EAX=1; 0:EBX=2; y=0; x=0"})
	refs := []string{"0:EAX", "0:EBX", "x", "y"}
	for k := 1; k < len(threads); k++ {
		settings += fmt.Sprintf("; %d:EAX=%d", k, roll(2))
		refs = append(refs, fmt.Sprint(k, ":EAX"))
	}
	var parts []string
	for range 1 + roll(3) {
		parts = append(parts, pick(roll, []string{"", "", "~"})+pick(roll, refs)+"="+fmt.Sprint(roll(3)))
	}
	watch := pick(roll, []string{"", "", "locations [y; 0:EBX;]\n", "locations [ ]\n"})
	name := pick(roll, []string{"t", "SB", "a.b+c", "X86"})
	return file(name, settings, threads, watch+pick(roll, []string{"exists ", "~exists ", "forall "})+strings.Join(parts, pick(roll, []string{` /\ `, ` \/ `})))
}

// wrongFile is a file that is refused: where and by what.
type wrongFile struct {
	file      string
	line, col int
	errno     api.Errno
	class     int
}

func wrongFiles() []wrongFile {
	var settings, locs, regs, nodes []string
	for i := range 65 {
		settings = append(settings, fmt.Sprintf("a%02d=1", i))
	}
	for i := range 17 {
		locs = append(locs, fmt.Sprintf("l%d=1", i))
	}
	for _, s := range strings.Fields("EAX EBX ECX EDX ESI EDI EBP ESP R8") {
		regs = append(regs, "1:"+s+"=1")
	}
	for range 513 {
		nodes = append(nodes, "x=1")
	}
	return []wrongFile{
		{"", 1, 1, api.ErrSyntax, api.Syntax},
		{"\n\n ", 3, 2, api.ErrSyntax, api.Syntax},
		{"X86 t { } P0 ; exists true true", 1, 28, api.ErrSyntax, api.Syntax},
		{"X86 t { } P0 ;\nMOV EAX $1 ; exists true", 2, 9, api.ErrSyntax, api.Syntax},
		{"X86 t { x=12ab } P0 ; exists true", 1, 11, api.ErrNumber, api.Syntax},
		{"X86 t { x=0x10000000000000000 } P0 ; exists true", 1, 11, api.ErrBig, api.Syntax},
		{"X86 t { x=% } P0 ; exists true", 1, 11, api.ErrToken, api.Syntax},
		{"X86 t { (* } P0 ; exists true", 1, 9, api.ErrComment, api.Syntax},
		{"X86 " + strings.Repeat("n", 65) + " { } P0 ; exists true", 1, 5, api.ErrLong, api.Limit},
		{"X86 t { x=1 } P0 ; exists " + strings.Join(nodes, `\/`), 1, 27 + 512*5 + 2, api.ErrLong, api.Limit},
		{"X86 t { x=1 } P0 ; exists " + strings.Repeat("~", 65) + "x=1", 1, 27 + 64, api.ErrDepth, api.Limit},
		{"X86 t { } P0|P1|P2|P3|P4|P5 ; exists true", 1, 23, api.ErrThreads, api.Limit},
		{"X86 t { " + strings.Join(settings, ";") + " } P0 ; exists true", 1, 9 + 64*6, api.ErrLong, api.Limit},
		{"X86 t { 1:EAX=1 } P0 ; exists true", 1, 9, api.ErrUnknown, api.Ill},
		{"X86 t { x=1;\n 0:RAX=1 } P0 ; exists true", 2, 2, api.ErrReg, api.Ill},
		{"X86 t { x=1; x=2 } P0 ; exists true", 1, 14, api.ErrTwice, api.Ill},
		{"X86 t { } P0|P1 ; | ; MFENCE | MOV EAX,eax ; exists true", 1, 32, api.ErrReg, api.Ill},
		{"X86 t { } P0 ; MOV RAX,$1 ; exists true", 1, 16, api.ErrReg, api.Ill},
		{"X86 t { } P0 ; MOV EAX $1 ; exists true", 1, 24, api.ErrSyntax, api.Syntax},
		{"X86 t { " + strings.Join(regs, ";") + " } P0 | P1 ; exists true", 1, 9 + 8*8 + 6 + 8, api.ErrRegisters, api.Limit},
		{"X86 t { " + strings.Join(locs, ";") + " }\nP0 ; exists true", 2, 1, api.ErrLocs, api.Limit},
		{file("t", "", []string{"", strings.Repeat("MFENCE;", 65)}, "exists true"), 3, 2, api.ErrEvents, api.Limit},
		{"X86 t { } P0 ; locations [x] exists true", 1, 27, api.ErrUnknown, api.Ill},
		{"X86 t { x=1 } P0 ; locations [x; [x]] exists true", 1, 34, api.ErrTwice, api.Ill},
		{"X86 t { } P0 ; exists 0:EBX=1", 1, 23, api.ErrUnknown, api.Ill},
		{"X86 t { x=1 } P0 ; exists ~(x=1 \\/\n[y]=1)", 2, 1, api.ErrUnknown, api.Ill},
		// Of several the first: of settings ahead of instructions, and a word that can't stand there ahead of both.
		{"X86 t { x=1; x=1 } P0 ; MOV RAX,$1 ; exists y=1", 1, 14, api.ErrTwice, api.Ill},
		{"X86 t { x=1; x=1 } P0 ; MOV RAX,$1 ; exists y=1 /\\", 1, 51, api.ErrSyntax, api.Syntax},
	}
}

// filled is a text with so many blanks behind it that it has so many bytes.
func filled(s string, n int) string { return s + strings.Repeat(" ", n-len(s)) }

// testOf is the test of a file of which nothing is wrong.
func testOf(t *testing.T, file string) api.Test {
	t.Helper()
	x, err := litmus.Parse(file)
	if err != nil {
		t.Fatalf("%s: %v", file, err)
	}
	if w, e := prog.Check(x); e != api.OK {
		t.Fatalf("%s: %v, %d", file, w, e)
	}
	return x
}

func textOf(t *testing.T, x api.Test) string {
	t.Helper()
	s, e := print.Text(x)
	if e != api.OK {
		t.Fatalf("%v: %d", x, e)
	}
	return s
}

// do plays a script that must tell something.
func do(t *testing.T, d *desk.Desk, script, want string) {
	t.Helper()
	if got := d.Do(script); got != want {
		t.Errorf("%s\ntells\n%s\nwant\n%s", cutShort(script), cutShort(got), cutShort(want))
	}
}

func cutShort(s string) string {
	if len(s) > 2000 {
		return s[:2000] + ".."
	}
	return s
}
