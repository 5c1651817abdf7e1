package desk_test

import (
	"fmt"
	"strings"
	"testing"

	"weir/api"
	"weir/desk"
)

// small is a test of few states, in one line.
const small = "X86 s { x=1 } P0 ; exists x=1"

// smallShown is what show tells of it.
const smallShown = "X86 s\n{\nx=1;\n}\n P0 ;\nexists x=1\n"

// 28.3: the chapter's example 3.
func TestDoExamples(t *testing.T) {
	d := desk.New()
	do(t, d, "cycle a PodWR Fre PodWR Fre\n", "")
	three := "States 3\n0:EAX=0; 1:EAX=1;\n0:EAX=1; 1:EAX=0;\n0:EAX=1; 1:EAX=1;\n"
	do(t, d, "run a SC\nfences a\nwhy a SC\n", "Test PodWR+Fre+PodWR+Fre Allowed\n"+three+"No\nWitnesses\nPositive: 0 Negative: 3\nCondition exists 0:EAX=0 /\\ 1:EAX=0\nObservation PodWR+Fre+PodWR+Fre Never 0 3\n"+
		"0:1 1:1\nglobal: 0:0:Wx0 -po-> 0:1:Rx1 -fr-> 1:0:Wx1 -po-> 1:1:Rx0 -fr-> 0:0:Wx0\n")
	do(t, d, "fly a\nshow b\nrun a XY", "! 280\n! 3\n! 281\n")
}

// 28.3: lines, words, and what is nothing.
func TestLines(t *testing.T) {
	for _, c := range [][2]string{
		{"", ""}, {"\n", ""}, {"\n\n \t\r \n", ""}, {"#", ""}, {"  # items\n#items\n\t#\r\n", ""},
		{"known m SC", ""}, {"known m SC\nitems", "m model\n"}, {"\r\tknown  m\r\rSC\t\r\nitems\r", "m model\n"},
		{"known m SC # x", "! 281\n"}, {"known m SC\nitems #\n", "! 281\n"}, {"known # SC\n", "! 281\n"},
		{"known m SC;items", "! 281\n"}, {"items\vm\nitems\f\nitems\u00a0\nitems\x00\n\xff\n\xe2 items\n", strings.Repeat("! 280\n", 6)},
		{"known m\fSC", "! 281\n"}, {"known \xe2 SC", "! 281\n"}, {"Items\nITEMS\nitem\nitemss\n", strings.Repeat("! 280\n", 4)},
		{"items", ""}, {"items\nitems\n", ""}, {"drop m\nknown m SC\ndrop m\ndrop m\n", "! 3\n! 3\n"},
	} {
		do(t, desk.New(), c[0], c[1])
	}
}

// 28.3: blocks, and which lines are in them.
func TestBlocks(t *testing.T) {
	for _, c := range [][2]string{
		{"test a <<X\n" + small + "\nX\nshow a\n", smallShown},
		{"test a <<X\n" + small + "\nX", ""},
		{"test a <<X\n" + small + "\nX\nitems", "a test\n"},
		{"test a <<X\n" + small + "\nitems\n", "! 70 2 1\n"},
		{"test a <<X\n" + small, ""},
		{"test a <<X", "! 70 1 1\n"}, {"test a <<X\n", "! 70 1 1\n"}, {"test a <<X\nX", "! 70 1 1\n"}, {"test a <<X\n\nX", "! 70 2 1\n"},
		// The mark is a line of its own, and nothing else.
		{"test a <<X\n" + small + "\nX \nX\n", "! 70 2 1\n"}, {"test a <<X\n" + small + "\n X\nX\n", "! 70 2 2\n"}, {"test a <<X\n" + small + "\nX\r\nX\n", "! 70 2 1\n"},
		{"test a <<X\n" + small + "\nXX\nX\n", "! 70 2 1\n"}, {"test a <<XX\n" + small + "\nX\nXX\n", "! 70 2 1\n"},
		{"test a <<X\n" + small + "\n<<X\nX\n", "! 50 2 1\n"},
		{" test\ta  <<X \r\n" + small + "\nX\nitems\n", "a test\n"},
		// Any bytes make a mark.
		{"test a <<<\n" + small + "\n<\nitems", "a test\n"}, {"test a <<<<X\n" + small + "\n<<X\nitems", "a test\n"},
		{"test a <<#\n" + small + "\n#\nitems", "a test\n"}, {"test a <<\xff\n" + small + "\n\xff\nitems", "a test\n"}, {"test a <<items\n" + small + "\nitems\nitems", "a test\n"},
		// Within a block nothing is a command, and nothing a line that is nothing.
		{"model m <<X\nt\n# x\nX\nitems\n", "! 50 2 1\n"}, {"model m <<X\nt\n\nempty\n0\nX\nshow m\n", "t\nempty 0\n"},
		{"model m <<X\nt\nlet a = po\ntest a <<Y\nX\nitems\nY\n", "! 50 3 8\n! 280\n"},
		// Whatever a command is, or what is wrong with it, its block is none of its neighbours.
		{"fly <<X\nitems\nitems\nX\nknown m SC\nitems\n", "! 280\nm model\n"}, {"items <<X\nknown m SC\nX\nitems\n", "! 281\n"},
		{"cycle a PodWR <<X\nknown m SC\nX\nitems\n", "! 281\n"}, {"play a TSO 0:s <<X\nknown m SC\nX\nitems\n", "! 281\n"}, {"show nobody <<X\nknown m SC\nX\nitems\n", "! 281\n"},
		{"test <<X\nknown m SC\nX\nitems\n", "! 281\n"}, {"test a b <<X\nknown m SC\nX\nitems\n", "! 281\n"}, {"test 9 <<X\nknown m SC\nX\nitems\n", "! 281\n"},
		{"<<X <<Y\nknown m SC\nX\nY\nitems", "! 280\n"},
		// No block: one word alone, no mark, or not the last word.
		{"<<X\nknown m SC\nitems", "! 280\nm model\n"}, {"test a <<\nknown m SC\nitems", "! 281\nm model\n"}, {"test a\nknown m SC\nitems", "! 281\nm model\n"},
		{"test <<X a\nknown m SC\nitems", "! 281\nm model\n"}, {"test a <<X b\nknown m SC\nitems", "! 281\nm model\n"}, {"test a << X\nknown m SC\nitems", "! 281\nm model\n"}, {"test a <X\nknown m SC\nitems", "! 281\nm model\n"},
		{"test a x<<X\nknown m SC\nitems", "! 281\nm model\n"}, {"# a <<X\nknown m SC\nitems", "m model\n"}, {"#test a <<X\nknown m SC\nitems", "m model\n"},
	} {
		do(t, desk.New(), c[0], c[1])
	}
}

// 28.3: places in a block are the block's own.
func TestPlacesInBlocks(t *testing.T) {
	do(t, desk.New(), "\n\n\ntest b <<X\nX86 t\nX\ntest b <<X\n\nX86 t { x=1; x=2 } P0 ; exists true", "! 70 2 1\n! 90 2 14\n")
	do(t, desk.New(), "model b <<X\nt\nlet a = po\nacyclic a | W\nX\nmodel b <<X\nt acyclic xx", "! 202 3 1\n! 201 1 3\n")
	for _, c := range wrongFiles() {
		d := desk.New()
		want := fmt.Sprintf("! %d %d %d\n", c.errno, c.line, c.col)
		do(t, d, "test a <<end\n"+c.file, want)
		do(t, d, "items\ntest a <<end\n"+small+"\nend\ntest a <<end\n"+c.file, want)
		do(t, d, "show a", smallShown)
	}
}

// 28.3: every command with every few words, held against a desk in the chapter's words.
func TestWords(t *testing.T) {
	setUp := "known m SC\ntest a <<X\n" + small + "\nX\n"
	all := []string{"a", "m", "b", "9", "SC", "sc", "<<X", "<<", "0:s", "PodWR"}
	checked := 0
	var grow func(line string, n int)
	grow = func(line string, n int) {
		s := setUp + line + "\nX\nitems\n"
		checked++
		do(t, desk.New(), s, newPlain().do(t, s))
		if n == 0 || t.Failed() {
			return
		}
		for _, w := range all {
			grow(line+" "+w, n-1)
		}
	}
	for s := range strings.SplitSeq(forms, "\n") {
		grow(strings.Fields(s)[0], 3)
	}
	grow("fly", 2)
	if checked < 20000 {
		t.Errorf("%d commands", checked)
	}
}

// 28.3: of several errors the first.
func TestOrderOfErrors(t *testing.T) {
	full := ""
	for i := range 62 {
		full += fmt.Sprintf("known i%d SC\n", i)
	}
	d := desk.New()
	do(t, d, "test a <<X\n"+small+"\nX\nknown m SC\n"+full, "")
	for _, c := range [][2]string{
		{"fly <<X\nX\n", "! 280\n"}, {"fly 9 9 9", "! 280\n"},
		{"run nobody XY", "! 281\n"}, {"run 9 SC", "! 281\n"}, {"form 9 nobody", "! 281\n"}, {"form n 9", "! 281\n"}, {"play nobody SC", "! 281\n"}, {"play nobody XY 0:x", "! 281\n"},
		{"cycle n", "! 281\n"}, {"known n XY", "! 281\n"}, {"known n tso", "! 281\n"}, {"test n", "! 281\n"}, {"test 9 <<X\n%\nX", "! 281\n"}, {"same a", "! 281\n"}, {"same a nobody a", "! 281\n"},
		{"cycle " + strings.Repeat("n", 65) + " Fre", "! 281\n"}, {"show " + strings.Repeat("n", 65), "! 281\n"}, {"show " + strings.Repeat("n", 64), "! 3\n"},
		{"play nobody SC 0:x", "! 3\n"}, {"story m SC 0:x", "! 3\n"}, {"same a m", "! 3\n"}, {"same m a", "! 3\n"}, {"allow a a", "! 3\n"}, {"allow m m", "! 3\n"}, {"allow m a", "! 3\n"}, {"run m SC", "! 3\n"},
		{"form n m", "! 3\n"}, {"form n nobody", "! 3\n"}, {"copy n nobody", "! 3\n"}, {"drop nobody", "! 3\n"}, {"size m SC", "! 3\n"}, {"shows m SC", "! 3\n"}, {"why m SC", "! 3\n"}, {"robust m", "! 3\n"}, {"fences m", "! 3\n"},
		{"play a SC 0:x", "! 150 1 1\n"}, {"story a SC 0:s x", "! 150 1 5\n"}, {"play a SC  0:s\t\t0:f   x", "! 150 1 9\n"},
		// Nothing more goes on the desk, but the command's own error stands ahead of that.
		{"cycle n Fre", "! 260\n"}, {"test n <<X\n%\nX", "! 50 1 1\n"}, {"model n <<X\nt acyclic W\nX", "! 202 1 3\n"},
		{"cycle n PodWR Fre PodWR Fre", "! 1\n"}, {"test n <<X\n" + small + "\nX", "! 1\n"}, {"model n <<X\nt\nX", "! 1\n"}, {"known n SC", "! 1\n"}, {"form n a", "! 1\n"}, {"copy n a", "! 1\n"}, {"copy n m", "! 1\n"},
		{"show n", "! 3\n"},
	} {
		before := d.Do("items\nshow a\nshow m\n")
		do(t, d, c[0], c[1])
		do(t, d, "items\nshow a\nshow m\n", before)
	}
	// Under a name that is there already, and where one has been taken off, there is room.
	do(t, d, "cycle i1 PodWR Fre PodWR Fre\ntest i2 <<X\n"+small+"\nX\nmodel i3 <<X\nt\nX\nknown i4 TSO\nform i5 a\ncopy i6 a\ncopy a a\n", "")
	do(t, d, "drop i7\ncopy n a\ncopy o a\nshow n\n", "! 1\n"+smallShown)
	if s := d.Do("items"); strings.Count(s, "\n") != 64 || !strings.Contains(s, "i1 test\ni10 model\n") || !strings.Contains(s, "i2 test\n") || !strings.Contains(s, "i3 model\n") || !strings.Contains(s, "i6 test\n") || !strings.HasSuffix(s, "m model\nn test\n") {
		t.Errorf("items: %s", s)
	}
}

// 28.3: scripts of MaxText bytes, and of a byte more, of which nothing is played.
func TestLongScripts(t *testing.T) {
	d := desk.New()
	do(t, d, filled("known m SC", api.MaxText), "")
	do(t, d, "items", "m model\n")
	for _, s := range []string{filled("drop m\n", api.MaxText+1), filled("", api.MaxText+1), strings.Repeat("\n", api.MaxText+1), "known n SC\n" + strings.Repeat("fly\n", api.MaxText)} {
		do(t, d, s, "! 1\n")
	}
	do(t, d, "items", "m model\n")
	if s := d.Do(strings.Repeat("x\n", api.MaxText/2)); s != strings.Repeat("! 280\n", api.MaxText/2) {
		t.Errorf("many commands tell %d bytes", len(s))
	}
	if s := d.Do(strings.Repeat("x <<X\n", api.MaxText/6)); s != "! 280\n" {
		t.Errorf("one block tells %s", cutShort(s))
	}
	if s := d.Do(strings.Repeat("x <<X\nX\n", api.MaxText/8)); s != strings.Repeat("! 280\n", api.MaxText/8) {
		t.Errorf("many blocks tell %d bytes", len(s))
	}
}
