package litmus_test

import (
	"strings"
	"testing"

	"weir/api"
	"weir/litmus"
)

// 7.2: parts of all kinds, in a text whose places are told by a mark ahead of each.
func TestLocate(t *testing.T) {
	marked := `X86 SB "a
"`
	if _, _, ok := litmus.Locate(marked, api.Where{Part: api.WThread}); ok {
		t.Error("Locate in no file")
	}
	marked = "X86 SB \"doc\" {\n\t@x=0;\n @0:EAX=1; @[y]=2 }\n @P0 (* @no *) | @P1 ;\n @MOV [x],$1 | ;\n|;\n @LOCK XADD [x],EAX | @MFENCE ;\n" +
		"locations [@x; @1:EAX;\n@[y]]\n~exists (true /\\ ((@0:EAX=0)) \\/ ~@[y]=1 /\\ (@true=2)) \\/ @x=1"
	text := strings.NewReplacer("@no", "no", "@", "").Replace(marked)
	places := marks(strings.ReplaceAll(marked, "@no", "no"))
	parts := []api.Where{
		{Part: api.WInit, I: 0}, {Part: api.WInit, I: 1}, {Part: api.WInit, I: 2},
		{Part: api.WThread, I: 0}, {Part: api.WThread, I: 1},
		{Part: api.WInstr, I: 0, K: 0}, {Part: api.WInstr, I: 0, K: 1}, {Part: api.WInstr, I: 1, K: 0},
		{Part: api.WWatch, I: 0}, {Part: api.WWatch, I: 1}, {Part: api.WWatch, I: 2},
		// true, 0:EAX=0, and, y=1, not, true=2, and, or, x=1, or
		{Part: api.WCond, I: 1}, {Part: api.WCond, I: 3}, {Part: api.WCond, I: 5}, {Part: api.WCond, I: 8},
	}
	want := map[api.Where]api.Token{}
	for i, w := range parts {
		want[w] = api.Token{Line: places[i][0], Col: places[i][1]}
	}
	if len(parts) != len(places) {
		t.Fatalf("%d parts, %d marks", len(parts), len(places))
	}
	for part := -1; part < 8; part++ {
		for i := -1; i < 12; i++ {
			for k := -1; k < 4; k++ {
				checkPlace(t, text, api.Where{Part: part, I: i, K: k}, want)
			}
		}
	}
	for _, n := range []int{-1 << 63, 1<<63 - 1, 1 << 32} {
		for part := range 7 {
			checkPlace(t, text, api.Where{Part: part, I: n}, want)
			checkPlace(t, text, api.Where{Part: part, K: n}, want)
			checkPlace(t, text, api.Where{Part: n, I: part}, want)
		}
	}
}

// marks is the lines and columns that the marks of a text have when they are taken away.
func marks(s string) [][2]int {
	var all [][2]int
	for i, line := range strings.Split(s, "\n") {
		col := 1
		for _, c := range []byte(line) {
			if c == '@' {
				all = append(all, [2]int{i + 1, col})
				continue
			}
			col++
		}
	}
	return all
}

// 7.2: the whole file counts, whatever part is asked for.
func TestLocateWrong(t *testing.T) {
	for _, s := range []string{sb + " word", sb + " %", sb[:len(sb)-1], sb + `/\`, ""} {
		for part := range 7 {
			checkPlace(t, s, api.Where{Part: part}, nil)
		}
	}
	checkPlace(t, sb, api.Where{Part: api.WThread}, map[api.Where]api.Token{{Part: api.WThread}: {Line: 1, Col: 22}})
}
