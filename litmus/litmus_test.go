package litmus_test

import (
	"strings"
	"testing"

	"weir/api"
	"weir/cond"
	"weir/litmus"
)

func loc(name string) api.Ref { return api.Ref{Thread: -1, Name: name} }

func reg(thread int, name string) api.Ref { return api.Ref{Thread: thread, Name: name} }

func is(r api.Ref, v int64) api.Node { return api.Node{Op: api.CIs, Ref: r, Value: v} }

func checkParse(t *testing.T, s string, want api.Test) {
	t.Helper()
	if got, err := litmus.Parse(s); err != nil || !same(got, want) {
		t.Errorf("Parse(%.200q): %v, %v; want %v", s, got, err, want)
	}
}

func checkWrong(t *testing.T, s string, line, col int, want api.Errno) {
	t.Helper()
	got, err := litmus.Parse(s)
	if !same(got, api.Test{}) || !sameFault(err, &api.PosError{Line: line, Col: col, Err: want}) {
		t.Errorf("Parse(%.200q): %v, %v; want %d at %d:%d", s, got, err, want, line, col)
	}
}

const sb = `X86 SB { x=0; y=0; } P0 | P1 ; MOV [x],$1 | MOV [y],$1 ; MOV EAX,[y] | MOV EAX,[x] ; exists (0:EAX=0 /\ 1:EAX=0)`

func sbTest() api.Test {
	return api.Test{
		Name:  "SB",
		Inits: []api.Init{{Ref: loc("x")}, {Ref: loc("y")}},
		Threads: [][]api.Instr{
			{{Op: api.OStoreImm, Loc: "x", Imm: 1}, {Op: api.OLoad, Reg: "EAX", Loc: "y"}},
			{{Op: api.OStoreImm, Loc: "y", Imm: 1}, {Op: api.OLoad, Reg: "EAX", Loc: "x"}},
		},
		Quant: api.Exists,
		Cond:  api.Cond{is(reg(0, "EAX"), 0), is(reg(1, "EAX"), 0), {Op: api.CAnd, A: 0, B: 1}},
	}
}

// 7.1: the chapter's examples, and those of the whole that speak of files.
func TestExamples(t *testing.T) {
	checkParse(t, sb, sbTest())
	checkParse(t, strings.ReplaceAll(sb, " ", "\n"), sbTest())
	checkWrong(t, sb+" word", 1, len(sb)+2, api.ErrSyntax)
	checkWrong(t, "X86 t { } P0 ; MFENCE | ; forall true", 1, 23, api.ErrSyntax)
	checkWrong(t, "X86 t { } P1 ; forall true", 1, 11, api.ErrSyntax)
	checkParse(t, "X86 t { x=1 } P0 ; ~exists x=2", api.Test{Name: "t", Inits: []api.Init{{Ref: loc("x"), Value: 1}}, Threads: [][]api.Instr{nil}, Quant: api.NotExists, Cond: api.Cond{is(loc("x"), 2)}})
	checkWrong(t, "X86 t { x=1 y=2 } P0 ; forall true", 1, 13, api.ErrSyntax)
	checkWrong(t, "X86 t { } P0 ; MOV EAX $1 ; exists true", 1, 24, api.ErrSyntax)
	checkParse(t, "X86 t { } P0 ; MOV RAX,$1 ; exists true", api.Test{Name: "t", Threads: [][]api.Instr{{{Op: api.OMovImm, Reg: "RAX", Imm: 1}}}, Quant: api.Exists, Cond: api.Cond{{Op: api.CTrue}}})
}

// 7.1: each part of a file and of a test.
func TestParts(t *testing.T) {
	checkParse(t, `
X86 A.b+c-1 "a (* b *) c"
{
 x=0x10; 0:EAX=-1;
 [y]=18446744073709551615; 9999:exists=-9223372036854775808; 0012:r=007
}
 P0           | P1                   | P2                ;
 MOV EAX,$-1  |                      | XCHG [x],EBX      ; (* a comment
 over two lines *)
 MOV EAX,EBX  | LOCK CMPXCHG [x],EBX |                   ;
              |                      |                   ;
 MOV EAX,[x]  | LOCK XADD [y],ECX    | MFENCE            ;
 MOV [x],$0xf | MOV [y],EDX          |                   ;
locations [ x; 0:EAX; [y] ]
forall ~(x=1 \/ [y]=0x10)
`, api.Test{
		Name: "A.b+c-1",
		Doc:  "a (* b *) c",
		Inits: []api.Init{{Ref: loc("x"), Value: 16}, {Ref: reg(0, "EAX"), Value: -1}, {Ref: loc("y"), Value: -1},
			{Ref: reg(9999, "exists"), Value: -1 << 63}, {Ref: reg(12, "r"), Value: 7}},
		Threads: [][]api.Instr{
			{{Op: api.OMovImm, Reg: "EAX", Imm: -1}, {Op: api.OMovReg, Reg: "EAX", Src: "EBX"}, {Op: api.OLoad, Reg: "EAX", Loc: "x"}, {Op: api.OStoreImm, Loc: "x", Imm: 15}},
			{{Op: api.OCmpxchg, Loc: "x", Src: "EBX"}, {Op: api.OXadd, Loc: "y", Reg: "ECX"}, {Op: api.OStoreReg, Loc: "y", Src: "EDX"}},
			{{Op: api.OXchg, Loc: "x", Reg: "EBX"}, {Op: api.OFence}},
		},
		Watch: []api.Ref{loc("x"), reg(0, "EAX"), loc("y")},
		Quant: api.Forall,
		Cond:  api.Cond{is(loc("x"), 1), is(loc("y"), 16), {Op: api.COr, A: 0, B: 1}, {Op: api.CNot, A: 2}},
	})
}

// 7.1: words of the grammar are names too, and what the layers behind refuse is read.
func TestUnusualFiles(t *testing.T) {
	plain := api.Test{Name: "X86", Threads: [][]api.Instr{nil}, Quant: api.Forall, Cond: api.Cond{{Op: api.CTrue}}}
	checkParse(t, `X86 X86 "" {} P0; locations[] forall true`, plain)
	checkParse(t, "X86 X86{}P0;;;;forall(true)", plain)
	checkParse(t, "X86 exists{exists=1;exists=2}P0;MOV MOV,MOV;MOV[LOCK],$0;locations[locations;forall;[exists];0:P0]~(**)exists exists=1", api.Test{
		Name:    "exists",
		Inits:   []api.Init{{Ref: loc("exists"), Value: 1}, {Ref: loc("exists"), Value: 2}},
		Threads: [][]api.Instr{{{Op: api.OMovReg, Reg: "MOV", Src: "MOV"}, {Op: api.OStoreImm, Loc: "LOCK"}}},
		Watch:   []api.Ref{loc("locations"), loc("forall"), loc("exists"), reg(0, "P0")},
		Quant:   api.NotExists,
		Cond:    api.Cond{is(loc("exists"), 1)},
	})
	for _, n := range []int{5, 11, 2000} {
		var heads, cells []string
		for k := range n {
			heads = append(heads, "P"+itoa(k))
			cells = append(cells, "MOV R,$"+itoa(k))
		}
		s := "X86 t {} " + strings.Join(heads, "|") + ";" + strings.Join(cells, "|") + ";" + strings.Repeat("|", n-1)
		x, err := litmus.Parse(s + "; forall true")
		if err != nil || len(x.Threads) != n {
			t.Fatalf("Parse of %d columns: %d, %v", n, len(x.Threads), err)
		}
		for k, l := range x.Threads {
			if len(l) != 1 || l[0] != (api.Instr{Op: api.OMovImm, Reg: "R", Imm: int64(k)}) {
				t.Errorf("column %d of %d: %v", k, n, l)
			}
		}
		checkWrong(t, s+"|; forall true", 1, len(s)+1, api.ErrSyntax)
		checkWrong(t, s[:len(s)-1]+"; forall true", 1, len(s), api.ErrSyntax)
	}
}

// 7.1: the first token that cannot stand there, in each part.
func TestWrong(t *testing.T) {
	checkWrong(t, "", 1, 1, api.ErrSyntax)
	checkWrong(t, "(* *)\n ", 2, 2, api.ErrSyntax)
	checkWrong(t, "x86 t { } P0 ; forall true", 1, 1, api.ErrSyntax)
	checkWrong(t, `"X86" t { } P0 ; forall true`, 1, 1, api.ErrSyntax)
	checkWrong(t, `X86 "t" { } P0 ; forall true`, 1, 5, api.ErrSyntax)
	checkWrong(t, `X86 t "a" "b" { } P0 ; forall true`, 1, 11, api.ErrSyntax)
	checkWrong(t, "X86 t P0 ; forall true", 1, 7, api.ErrSyntax)
	checkWrong(t, "X86 t { ; } P0 ; forall true", 1, 9, api.ErrSyntax)
	checkWrong(t, "X86 t { x=1;; } P0 ; forall true", 1, 13, api.ErrSyntax)
	checkWrong(t, "X86 t { x=y } P0 ; forall true", 1, 11, api.ErrSyntax)
	checkWrong(t, "X86 t { x=$1 } P0 ; forall true", 1, 11, api.ErrSyntax)
	checkWrong(t, "X86 t { x 1 } P0 ; forall true", 1, 11, api.ErrSyntax)
	checkWrong(t, "X86 t { -1:x=1 } P0 ; forall true", 1, 9, api.ErrSyntax)
	checkWrong(t, "X86 t { 0x1:x=1 } P0 ; forall true", 1, 9, api.ErrSyntax)
	checkWrong(t, "X86 t { 00001:x=1 } P0 ; forall true", 1, 9, api.ErrSyntax)
	checkWrong(t, "X86 t { [0:x]=1 } P0 ; forall true", 1, 10, api.ErrSyntax)
	checkWrong(t, "X86 t { 0:[x]=1 } P0 ; forall true", 1, 11, api.ErrSyntax)
	checkWrong(t, "X86 t { [x=1 } P0 ; forall true", 1, 11, api.ErrSyntax)
	checkWrong(t, "X86 t { 0 x=1 } P0 ; forall true", 1, 11, api.ErrSyntax)
	checkWrong(t, "X86 t { } ; forall true", 1, 11, api.ErrSyntax)
	checkWrong(t, "X86 t { } forall true", 1, 11, api.ErrSyntax)
	checkWrong(t, "X86 t { } P00 ; forall true", 1, 11, api.ErrSyntax)
	checkWrong(t, "X86 t { } P0 | P2 ; forall true", 1, 16, api.ErrSyntax)
	checkWrong(t, "X86 t { } P0 | ; forall true", 1, 16, api.ErrSyntax)
	checkWrong(t, "X86 t { } P0 P1 ; forall true", 1, 14, api.ErrSyntax)
	checkWrong(t, `X86 t { } "P0" ; forall true`, 1, 11, api.ErrSyntax)
	checkWrong(t, "X86 t { } P0 | P1 ; MFENCE ; forall true", 1, 28, api.ErrSyntax)
	checkWrong(t, "X86 t { } P0 | P1 ; ; forall true", 1, 21, api.ErrSyntax)
	checkWrong(t, "X86 t { } P0 | P1 ; | | ; forall true", 1, 23, api.ErrSyntax)
	checkWrong(t, "X86 t { } P0 ; MFENCE MFENCE ; forall true", 1, 23, api.ErrSyntax)
	checkWrong(t, "X86 t { } P0 ; MFENCE forall true", 1, 23, api.ErrSyntax)
	checkWrong(t, "X86 t { } P0 ; mfence ; forall true", 1, 16, api.ErrSyntax)
	checkWrong(t, "X86 t { } P0 ; LOCK XCHG [x],EAX ; forall true", 1, 21, api.ErrSyntax)
	checkWrong(t, "X86 t { } P0 ; XADD [x],EAX ; forall true", 1, 16, api.ErrSyntax)
	checkWrong(t, "X86 t { } P0 ; ", 1, 16, api.ErrSyntax)
	checkWrong(t, "X86 t { } P0 ; true", 1, 16, api.ErrSyntax)
	checkWrong(t, "X86 t { } P0 | P1 ; | forall true", 1, 23, api.ErrSyntax)
	checkWrong(t, "X86 t { } P0 ; locations x forall true", 1, 26, api.ErrSyntax)
	checkWrong(t, "X86 t { } P0 ; locations [;] forall true", 1, 27, api.ErrSyntax)
	checkWrong(t, "X86 t { } P0 ; locations [x=1] forall true", 1, 28, api.ErrSyntax)
	checkWrong(t, "X86 t { } P0 ; locations [x y] forall true", 1, 29, api.ErrSyntax)
	checkWrong(t, "X86 t { } P0 ; locations [x] ; forall true", 1, 30, api.ErrSyntax)
	checkWrong(t, "X86 t { } P0 ; locations [x] MFENCE ; forall true", 1, 30, api.ErrSyntax)
	checkWrong(t, "X86 t { } P0 ; locations [x] locations [y] forall true", 1, 30, api.ErrSyntax)
	checkWrong(t, "X86 t { } P0 ; ~forall true", 1, 17, api.ErrSyntax)
	checkWrong(t, "X86 t { } P0 ; ~~exists true", 1, 17, api.ErrSyntax)
	checkWrong(t, "X86 t { } P0 ; exists forall true", 1, 30, api.ErrSyntax)
	checkWrong(t, "X86 t { } P0 ; exists", 1, 22, api.ErrSyntax)
	checkWrong(t, "X86 t { } P0 ; exists true ;", 1, 28, api.ErrSyntax)
	checkWrong(t, "X86 t { } P0 ; exists\n(x=1\n", 3, 1, api.ErrSyntax)
	checkWrong(t, "X86 t { } P0 ; exists x=1 /\\\n", 2, 1, api.ErrSyntax)
	checkWrong(t, "X86 t { } P0 ; exists x=1\nX86 t", 2, 1, api.ErrSyntax)
}

// 7.1: tokens are read each when it is needed: what lexis has to say behind something wrong is not asked for.
func TestTokensWhenNeeded(t *testing.T) {
	checkWrong(t, "X86 t t %", 1, 7, api.ErrSyntax)
	checkWrong(t, "X86 t % {", 1, 7, api.ErrToken)
	checkWrong(t, "% X86", 1, 1, api.ErrToken)
	checkWrong(t, "X86 t { x=1b } P0 ; forall true", 1, 11, api.ErrNumber)
	checkWrong(t, "X86 t { x=99999999999999999999 } P0 ; forall true", 1, 11, api.ErrBig)
	checkWrong(t, "X86 t { x y=99999999999999999999 } P0 ; forall true", 1, 11, api.ErrSyntax)
	checkWrong(t, "X86 "+strings.Repeat("n", 65)+" { } P0 ; forall true", 1, 5, api.ErrLong)
	checkWrong(t, "X86 t \"a\nb\" { } P0 ; forall true", 1, 9, api.ErrToken)
	checkWrong(t, "X86 t { } P0 ;\n(* forall true", 2, 1, api.ErrComment)
	checkWrong(t, "X86 t { } P0 ; MOV EAX,\n%", 2, 1, api.ErrToken)
	checkWrong(t, "X86 t { } P0 ; MOV EAX EBX %", 1, 24, api.ErrSyntax)
	checkWrong(t, "X86 t { } P0 ; ~ %", 1, 18, api.ErrToken)
	checkWrong(t, "X86 t { } P0 ; locations [ %", 1, 28, api.ErrToken)
}

// 7.1: in the condition too; the place of what lexis says may stand behind the token's beginning.
func TestTokensOfCondition(t *testing.T) {
	ahead := "X86 t { } P0 ; forall\n"
	for s, want := range map[string]api.PosError{
		"%":                          {Line: 2, Col: 1, Err: api.ErrToken},
		"x=%":                        {Line: 2, Col: 3, Err: api.ErrToken},
		"x=1b":                       {Line: 2, Col: 3, Err: api.ErrNumber},
		"x=1 %":                      {Line: 2, Col: 5, Err: api.ErrToken},
		"x=1 y %":                    {Line: 2, Col: 5, Err: api.ErrSyntax},
		"x=1 ) (*":                   {Line: 2, Col: 5, Err: api.ErrSyntax},
		"x=1 /\\ (*":                 {Line: 2, Col: 8, Err: api.ErrComment},
		"x=1 /\\ ) (*":               {Line: 2, Col: 8, Err: api.ErrSyntax},
		"true %":                     {Line: 2, Col: 6, Err: api.ErrToken},
		"true true %":                {Line: 2, Col: 6, Err: api.ErrSyntax},
		"true \"":                    {Line: 2, Col: 7, Err: api.ErrToken},
		"x=\"a\nb\"":                 {Line: 2, Col: 5, Err: api.ErrToken},
		"x=1 \"a\n":                  {Line: 2, Col: 7, Err: api.ErrToken},
		"x y \"a\n":                  {Line: 2, Col: 3, Err: api.ErrSyntax},
		"(x=1 \n\n  /":               {Line: 4, Col: 3, Err: api.ErrToken},
		"12345:x=1 %":                {Line: 2, Col: 1, Err: api.ErrSyntax},
		"0:x\n=99999999999999999999": {Line: 3, Col: 2, Err: api.ErrBig},
		strings.Repeat("n", 65):      {Line: 2, Col: 1, Err: api.ErrLong},
	} {
		checkWrong(t, ahead+s, want.Line, want.Col, want.Err.(api.Errno))
	}
}

// 7.1: a condition's own bounds, and what stands behind them.
func TestBoundsOfCondition(t *testing.T) {
	ahead := "X86 t { } P0 ; forall\n"
	deep := strings.Repeat("(", 64)
	if _, err := litmus.Parse(ahead + deep + "x=1" + strings.Repeat(")", 64)); err != nil {
		t.Errorf("Parse of 64 brackets: %v", err)
	}
	checkWrong(t, ahead+deep+"(x=1", 2, 65, api.ErrDepth)
	checkWrong(t, ahead+deep+"~ %", 2, 65, api.ErrDepth)
	checkWrong(t, ahead+deep+"%", 2, 65, api.ErrToken)
	checkWrong(t, ahead+strings.Repeat("(", 200000), 2, 65, api.ErrDepth)
	many := strings.Repeat(`x=1 /\ `, 511)
	if x, err := litmus.Parse(ahead + many + "~true"); err != nil || len(x.Cond) != 1024 || cond.Check(x.Cond) != api.OK {
		t.Errorf("Parse of 1024 nodes: %d, %v", len(x.Cond), err)
	}
	checkWrong(t, ahead+many+"x=1 \\/\nx=1", 3, 3, api.ErrLong)
	checkWrong(t, ahead+many+"x=1 \\/\nx=1 %", 3, 3, api.ErrLong)
	checkWrong(t, ahead+many+"x=1 \\/\ntrue %", 3, 1, api.ErrLong)
	checkWrong(t, ahead+many+"x=1 \\/\nx=%", 3, 3, api.ErrToken)
	checkWrong(t, ahead+many+"~~true", 2, 511*7+3, api.ErrLong)
}

// 7.1 to 7.3: texts as long as may be, and longer ones, of which the length alone is told.
func TestLongTexts(t *testing.T) {
	s := "X86 t { } P0 ; forall true"
	full := s + strings.Repeat(" ", api.MaxText-len(s))
	if x, err := litmus.Parse(full); err != nil || x.Name != "t" {
		t.Errorf("Parse of %d bytes: %v", len(full), err)
	}
	if line, col, ok := litmus.Locate(full, api.Where{Part: api.WThread}); line != 1 || col != 11 || !ok {
		t.Errorf("Locate in %d bytes: %d:%d, %v", len(full), line, col, ok)
	}
	checkWrong(t, full[:len(full)-1]+"x", 1, api.MaxText, api.ErrSyntax)
	checkWrong(t, strings.Repeat("\n", api.MaxText), api.MaxText+1, 1, api.ErrSyntax)
	rows := "X86 t {} P0|P1;" + strings.Repeat("|;", api.MaxText/2-20) + "forall true"
	if x, err := litmus.Parse(rows); err != nil || len(x.Threads) != 2 || len(x.Threads[1]) != 0 {
		t.Errorf("Parse of many rows: %v, %v", x, err)
	}
	for _, s := range []string{full + " ", strings.Repeat("%", api.MaxText+1), strings.Repeat("X86 ", api.MaxText)} {
		if x, err := litmus.Parse(s); err != error(api.ErrLong) || !same(x, api.Test{}) {
			t.Errorf("Parse of %d bytes: %v, %v", len(s), x, err)
		}
		if line, col, ok := litmus.Locate(s, api.Where{Part: api.WThread}); line != 0 || col != 0 || ok {
			t.Errorf("Locate in %d bytes: %d:%d, %v", len(s), line, col, ok)
		}
		if in, err := litmus.Instruction(s); err != error(api.ErrLong) || in != (api.Instr{}) {
			t.Errorf("Instruction of %d bytes: %v, %v", len(s), in, err)
		}
	}
	fence := "MFENCE" + strings.Repeat("\n", api.MaxText-6)
	if in, err := litmus.Instruction(fence); err != nil || in != (api.Instr{Op: api.OFence}) {
		t.Errorf("Instruction of %d bytes: %v, %v", len(fence), in, err)
	}
	if _, err := litmus.Instruction(fence + " "); err != error(api.ErrLong) {
		t.Errorf("Instruction of %d bytes: %v", len(fence)+1, err)
	}
}

// 7.1, R4: answers share no memory, and errors are made anew.
func TestMemory(t *testing.T) {
	s := "X86 t { x=1; y=2; z=3 } P0|P1|P2; MFENCE|MFENCE|MFENCE; MFENCE|MFENCE|; |MFENCE|; locations [x;y;z] exists x=1 /\\ y=2 /\\ z=3"
	other, err := litmus.Parse(s)
	if err != nil {
		t.Fatal(err)
	}
	for k := range 3 {
		x, _ := litmus.Parse(s)
		spoil(x.Threads[k][:cap(x.Threads[k])], api.Instr{Op: 99})
		x.Threads[k] = other.Threads[k]
		if !same(x, other) {
			t.Errorf("thread %d shares memory: %v", k, x)
		}
	}
	x, _ := litmus.Parse(s)
	spoil(x.Inits[:cap(x.Inits)], api.Init{Value: 99})
	spoil(x.Watch[:cap(x.Watch)], api.Ref{Thread: 99})
	spoil(x.Cond[:cap(x.Cond)], api.Node{Op: 99})
	spoil(x.Threads[:cap(x.Threads)], nil)
	if again, err := litmus.Parse(s); err != nil || !same(again, other) {
		t.Errorf("Parse again: %v, %v", again, err)
	}
	for range 3 {
		for _, s := range []string{"X86 %", "X86 {", "X86 t{}P0;exists %", "X86 t{}P0;exists x", "X86 t{}P0;exists true true"} {
			_, err := litmus.Parse(s)
			p, ok := err.(*api.PosError)
			if !ok || p.Line != 1 {
				t.Fatalf("Parse(%q): %v", s, err)
			}
			p.Line, p.Err = 99, api.ErrName
		}
	}
}

func spoil[T any](l []T, v T) {
	for i := range l {
		l[i] = v
	}
}
