package litmus_test

import (
	"fmt"
	"slices"
	"strings"
	"testing"

	"weir/api"
	"weir/cond"
	"weir/lexis"
	"weir/litmus"
	"weir/word"
)

// 7.3: the chapter's examples, and each kind of instruction.
func TestInstruction(t *testing.T) {
	for s, want := range map[string]api.Instr{
		"LOCK XADD [x],EAX":          {Op: api.OXadd, Loc: "x", Reg: "EAX"},
		"LOCK CMPXCHG[x],EBX":        {Op: api.OCmpxchg, Loc: "x", Src: "EBX"},
		"XCHG [x],EAX":               {Op: api.OXchg, Loc: "x", Reg: "EAX"},
		" (* a *) MFENCE\n(**)":      {Op: api.OFence},
		"MOV EAX,$-0x10":             {Op: api.OMovImm, Reg: "EAX", Imm: -16},
		"MOV\nEAX\n,\n$\n1":          {Op: api.OMovImm, Reg: "EAX", Imm: 1},
		"MOV EAX,EBX":                {Op: api.OMovReg, Reg: "EAX", Src: "EBX"},
		"MOV no.register,[any+name]": {Op: api.OLoad, Reg: "no.register", Loc: "any+name"},
		"MOV [x],$0":                 {Op: api.OStoreImm, Loc: "x"},
		"MOV [MOV],LOCK":             {Op: api.OStoreReg, Loc: "MOV", Src: "LOCK"},
	} {
		if got, err := litmus.Instruction(s); got != want || err != nil {
			t.Errorf("Instruction(%q): %v, %v; want %v", s, got, err, want)
		}
	}
	for s, want := range map[string]api.PosError{
		"MOV [x],[y]":    {Line: 1, Col: 9, Err: api.ErrSyntax},
		"":               {Line: 1, Col: 1, Err: api.ErrSyntax},
		"\n ":            {Line: 2, Col: 2, Err: api.ErrSyntax},
		"MFENCE ;":       {Line: 1, Col: 8, Err: api.ErrSyntax},
		"MFENCE\nMFENCE": {Line: 2, Col: 1, Err: api.ErrSyntax},
		"MFENCE %":       {Line: 1, Col: 8, Err: api.ErrToken},
		"NOP %":          {Line: 1, Col: 1, Err: api.ErrSyntax},
		"MOV EAX,1":      {Line: 1, Col: 9, Err: api.ErrSyntax},
		"MOV EAX,$x":     {Line: 1, Col: 10, Err: api.ErrSyntax},
		"MOV EAX,$1x":    {Line: 1, Col: 10, Err: api.ErrNumber},
		"MOV [x],":       {Line: 1, Col: 9, Err: api.ErrSyntax},
		"XCHG EAX,[x]":   {Line: 1, Col: 6, Err: api.ErrSyntax},
		"XCHG [x],$1":    {Line: 1, Col: 10, Err: api.ErrSyntax},
		"LOCK MFENCE":    {Line: 1, Col: 6, Err: api.ErrSyntax},
		"lock xadd":      {Line: 1, Col: 1, Err: api.ErrSyntax},
		"LOCK (*":        {Line: 1, Col: 6, Err: api.ErrComment},
	} {
		if got, err := litmus.Instruction(s); got != (api.Instr{}) || !sameFault(err, &want) {
			t.Errorf("Instruction(%q): %v, %v; want %v", s, got, err, &want)
		}
	}
}

// 7.3: all short lists of words, and each instruction with a word changed, put in or left out.
func TestInstructionWords(t *testing.T) {
	all := []string{"MOV", "MFENCE", "XCHG", "LOCK", "CMPXCHG", "XADD", "[", "]", ",", "$", "x", "1", `"s"`, ";", "%"}
	var grow func(s string, n int)
	grow = func(s string, n int) {
		checkInstr(t, s)
		if n == 0 {
			return
		}
		for _, w := range all {
			grow(s+w+" ", n-1)
		}
	}
	grow("", 4)
	i := 0
	for _, s := range []string{"MOV a , $ 1", "MOV a , b", "MOV a , [ b ]", "MOV [ a ] , $ 1", "MOV [ a ] , b", "MFENCE", "XCHG [ a ] , b", "LOCK CMPXCHG [ a ] , b", "LOCK XADD [ a ] , b"} {
		for one := range changed(strings.Fields(s), all) {
			checkInstr(t, strings.Join(one, "\n"))
			if i++; i%5 > 0 {
				continue
			}
			for two := range changed(one, all) {
				checkInstr(t, strings.Join(two, " "))
			}
		}
	}
}

// changed goes through a list of words with one left out, with one changed, and with one put in, and through what stands ahead of each.
func changed(l, all []string) func(yield func([]string) bool) {
	return func(yield func([]string) bool) {
		for i := range len(l) + 1 {
			if !yield(slices.Clone(l[:i])) || i < len(l) && !yield(slices.Concat(l[:i], l[i+1:])) {
				return
			}
			for _, w := range all {
				if !yield(slices.Concat(l[:i], []string{w}, l[i:])) || i < len(l) && !yield(slices.Concat(l[:i], []string{w}, l[i+1:])) {
					return
				}
			}
		}
	}
}

// someFiles is files of all kinds of parts.
func someFiles() []string {
	return []string{
		sb,
		`X86 t { } P0 ; forall true`,
		`X86 t "s" { x=1; 0:EAX=2; [y]=3; } P0 | P1 | P2 ; MFENCE | | XCHG [x],EAX ; | LOCK XADD [y],EAX | ; | | ; locations [x; 1:EAX; [y];] ~exists ~(true /\ [y]=1 \/ x=2)`,
		`X86 true { true=1 } P0 ; LOCK CMPXCHG [x],EBX ; ; MOV EAX,EBX ; locations [ ] exists true=1 \/ (true) /\ 0:true=-1`,
	}
}

// someWords is the words of the grammar, and others.
func someWords() []string {
	return strings.Fields(`X86 x P0 P1 P2 P3 P00 MOV MFENCE XCHG LOCK CMPXCHG XADD locations exists forall true 0 -1 12345 "s" { } [ ] ( ) ; : , | = $ ~ /\ \/ \ * & + ? ^-1 % 1b (* " `)
}

// cells is a file's tokens, as they stand.
func cells(t *testing.T, s string) []string {
	t.Helper()
	l, err := lexis.All(s)
	if err != nil {
		t.Fatal(err)
	}
	var out []string
	for _, k := range l {
		out = append(out, s[k.At:k.End])
	}
	return out
}

// 7.1, 7.2: files, each with one word changed, put in or left out, and all that may stand ahead of one.
func TestChangedFiles(t *testing.T) {
	for _, s := range someFiles() {
		if !checkFile(t, s) {
			t.Fatalf("no file: %q", s)
		}
		for l := range changed(cells(t, s), someWords()) {
			checkFile(t, strings.Join(l, " "))
		}
	}
}

// 7.1, 7.2: files with several changes, and pieces of them in other places.
func TestUnrulyFiles(t *testing.T) {
	roll := dice(7)
	all := someWords()
	whole := 0
	for range 20000 {
		l := cells(t, someFiles()[roll(4)])
		for range 1 + roll(3) {
			at := roll(len(l) + 1)
			piece := []string{all[roll(len(all))]}
			if roll(3) == 0 {
				other := cells(t, someFiles()[roll(4)])
				from := roll(len(other))
				piece = other[from:min(len(other), from+1+roll(8))]
			}
			l = slices.Concat(l[:at], piece, l[min(len(l), at+roll(4)):])
		}
		if checkFile(t, strings.Join(l, []string{" ", "\n", " (**)\t"}[roll(3)])) {
			whole++
		}
	}
	if whole < 100 {
		t.Errorf("only %d files are whole", whole)
	}
}

// 7.1: files in which a byte is another one, or which end early.
func TestChangedBytes(t *testing.T) {
	for _, s := range someFiles() {
		for i := range len(s) {
			checkFile(t, s[:i])
			for _, c := range []byte("x1 \n%\"*()[;|=$~:\x00\xff") {
				checkFile(t, s[:i]+string([]byte{c})+s[i+1:])
			}
		}
	}
}

// randomTest is a test as a file may have it.
func randomTest(roll func(int) int) api.Test {
	names := []string{"x", "y", "EAX", "EBX", "exists", "locations", "MOV", "true", "a.b+c", "P0", "X86", "forall"}
	name := func() string { return names[roll(len(names))] }
	ref := func() api.Ref { return api.Ref{Thread: []int{-1, -1, 0, 1, 9999}[roll(5)], Name: name()} }
	value := func() int64 { return []int64{0, 1, -1, 1<<63 - 1, -1 << 63, 255}[roll(6)] }
	x := api.Test{Name: name(), Doc: []string{"", "a (* b", "é $%"}[roll(3)], Quant: 1 + roll(3)}
	for range roll(4) {
		x.Inits = append(x.Inits, api.Init{Ref: ref(), Value: value()})
	}
	for range 1 + roll(4) {
		var l []api.Instr
		for range roll(4) {
			in := api.Instr{Op: 1 + roll(9)}
			for s, op := range instrPatterns() {
				for _, w := range strings.Fields(s) {
					switch {
					case op != in.Op:
					case w == "Reg":
						in.Reg = name()
					case w == "Src":
						in.Src = name()
					case w == "Loc":
						in.Loc = name()
					case w == "Imm":
						in.Imm = value()
					}
				}
			}
			l = append(l, in)
		}
		x.Threads = append(x.Threads, l)
	}
	for range roll(4) {
		x.Watch = append(x.Watch, ref())
	}
	x.Cond = randomCond(roll, 1+roll(4))
	return x
}

func randomCond(roll func(int) int, leaves int) api.Cond {
	if leaves == 1 {
		c := api.Cond{is(api.Ref{Thread: roll(3) - 1, Name: []string{"x", "true", "EAX"}[roll(3)]}, int64(roll(3)-1))}
		if roll(5) == 0 {
			c[0] = api.Node{Op: api.CTrue}
		}
		if roll(4) == 0 {
			c = append(c, api.Node{Op: api.CNot})
		}
		return c
	}
	k := 1 + roll(leaves-1)
	a, b := randomCond(roll, k), randomCond(roll, leaves-k)
	for i, n := range b {
		if n.Op != api.CIs && n.Op != api.CTrue {
			b[i].A += len(a)
		}
		if n.Op == api.CAnd || n.Op == api.COr {
			b[i].B += len(a)
		}
	}
	return append(slices.Concat(a, b), api.Node{Op: api.CAnd + roll(2), A: len(a) - 1, B: len(a) + len(b) - 1})
}

// loose writes a test with unruly blanks and comments, rows as they come, and brackets that need not be.
type loose struct {
	roll func(int) int
	out  strings.Builder
}

func (w *loose) put(words ...string) {
	for _, s := range words {
		w.out.WriteString(s)
		w.out.WriteString([]string{" ", "\n", "\t\r\n", " (* a (* | *) ; *) ", "(**)", "  "}[w.roll(6)])
	}
}

// number writes a value in one of the ways that word has for it.
func (w *loose) number(v int64) {
	w.put([]string{word.Text(v), word.Hex(v), word.Unsigned(v), "0" + word.Unsigned(v)}[w.roll(4)])
}

func (w *loose) ref(r api.Ref) {
	switch {
	case r.Thread >= 0 && w.roll(2) == 0:
		w.put(fmt.Sprintf("%04d", r.Thread), ":", r.Name)
	case r.Thread >= 0:
		w.put(itoa(r.Thread), ":", r.Name)
	case w.roll(2) == 0:
		w.put("[", r.Name, "]")
	default:
		w.put(r.Name)
	}
}

func (w *loose) instr(in api.Instr) {
	for s, op := range instrPatterns() {
		if op != in.Op {
			continue
		}
		for _, field := range strings.Fields(s) {
			switch field {
			case "Reg":
				w.put(in.Reg)
			case "Src":
				w.put(in.Src)
			case "Loc":
				w.put(in.Loc)
			case "Imm":
				w.number(in.Imm)
			default:
				w.put(field)
			}
		}
	}
}

// list writes items with ; between, and perhaps one behind.
func (w *loose) list(n int, item func(i int)) {
	for i := range n {
		item(i)
		if i < n-1 || w.roll(2) == 0 {
			w.put(";")
		}
	}
}

// rows writes each thread's instructions in their order, in rows that have been thrown for.
func (w *loose) rows(threads [][]api.Instr) {
	done := make([]int, len(threads))
	for left := true; left || w.roll(3) == 0; {
		left = false
		for k, l := range threads {
			if k > 0 {
				w.put("|")
			}
			if done[k] < len(l) && w.roll(3) > 0 {
				w.instr(l[done[k]])
				done[k]++
			}
			left = left || done[k] < len(l)
		}
		w.put(";")
	}
}

func (w *loose) cond(c api.Cond, i int) {
	for open := w.roll(3); open > 0; open-- {
		w.put("(")
		defer w.put(")")
	}
	part := func(i int) {
		if c[i].Op == api.CAnd || c[i].Op == api.COr {
			w.put("(")
			defer w.put(")")
		}
		w.cond(c, i)
	}
	switch n := c[i]; n.Op {
	case api.CTrue:
		w.put("true")
	case api.CIs:
		w.ref(n.Ref)
		w.put("=")
		w.number(n.Value)
	case api.CNot:
		w.put("~")
		part(n.A)
	default:
		part(n.A)
		w.put(map[int]string{api.CAnd: `/\`, api.COr: `\/`}[n.Op])
		part(n.B)
	}
}

func (w *loose) file(x api.Test) string {
	w.put("", "X86", x.Name)
	if x.Doc != "" || w.roll(2) == 0 {
		w.put(`"` + x.Doc + `"`)
	}
	w.put("{")
	w.list(len(x.Inits), func(i int) {
		w.ref(x.Inits[i].Ref)
		w.put("=")
		w.number(x.Inits[i].Value)
	})
	w.put("}", "P0")
	for k := 1; k < len(x.Threads); k++ {
		w.put("|", "P"+itoa(k))
	}
	w.put(";")
	w.rows(x.Threads)
	if len(x.Watch) > 0 || w.roll(2) == 0 {
		w.put("locations", "[")
		w.list(len(x.Watch), func(i int) { w.ref(x.Watch[i]) })
		w.put("]")
	}
	w.put(strings.Fields(map[int]string{api.Exists: "exists", api.NotExists: "~ exists", api.Forall: "forall"}[x.Quant])...)
	w.cond(x.Cond, len(x.Cond)-1)
	return w.out.String()
}

// 7.5: whatever blanks, comments, rows and brackets a file has, the test is the one that was written, and its condition is one.
func TestLooseFiles(t *testing.T) {
	roll := dice(75)
	for i := range 4000 {
		x := randomTest(roll)
		if cond.Check(x.Cond) != api.OK {
			t.Fatalf("no condition: %v", x.Cond)
		}
		s := (&loose{roll: roll}).file(x)
		checkParse(t, s, x)
		if i%8 == 0 {
			checkFile(t, s)
		}
	}
}

// 7.5: an error stands at a place of the text.
func TestPlacesOfErrors(t *testing.T) {
	roll := dice(57)
	for range 4000 {
		s := []byte((&loose{roll: roll}).file(randomTest(roll)))
		for range 1 + roll(2) {
			s[roll(len(s))] = "%\"(\n;x1"[roll(7)]
		}
		_, err := litmus.Parse(string(s))
		if err == nil {
			continue
		}
		p := err.(*api.PosError)
		lines := strings.Split(string(s), "\n")
		if p.Line < 1 || p.Line > len(lines) || p.Col < 1 || p.Col > len(lines[p.Line-1])+1 {
			t.Errorf("Parse(%q): %v", s, err)
		}
	}
}
