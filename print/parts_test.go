package print_test

import (
	"fmt"
	"math"
	"regexp"
	"slices"
	"strconv"
	"strings"
	"testing"

	"weir/api"
	"weir/litmus"
	"weir/print"
)

func loc(name string) api.Ref { return api.Ref{Thread: -1, Name: name} }

func reg(thread int, name string) api.Ref { return api.Ref{Thread: thread, Name: name} }

func is(r api.Ref, v int64) api.Node { return api.Node{Op: api.CIs, Ref: r, Value: v} }

var nameForm = regexp.MustCompile(`^[A-Za-z_](?:[A-Za-z0-9_.]|[+-][A-Za-z0-9_])*$`)

// isName is what chapter 5 calls a name, said as a pattern.
func isName(s string) bool { return len(s) <= api.MaxName && nameForm.MatchString(s) }

func someNames() []string {
	return []string{"x", "_", "EAX", "R15", "true", "exists", "MOV", "a.b", "a.", "a+b-c", "a-1", "P0", "Z9_", strings.Repeat("n", 64), "a" + strings.Repeat("+b", 31)}
}

func someOthers() []string {
	return []string{"", " ", "1", "1x", "-x", ".x", "x-", "x+", "x--y", "x y", " x", "x ", "x\n", "[x]", "x=1", "0:x", "$1", "x,y", "é", "x\x00", "x\xff", `"x"`, "(**)x", "x(**)", strings.Repeat("n", 65), strings.Repeat("n", 1<<20)}
}

// The names are names, and the others none: else the tests ask for less than they seem to.
func TestSomeNames(t *testing.T) {
	for _, s := range someNames() {
		if !isName(s) {
			t.Errorf("%q is no name", s)
		}
	}
	for _, s := range someOthers() {
		if isName(s) {
			t.Errorf("%.80q is a name", s)
		}
	}
}

// refWords is the text of a reference, and whether it has one.
func refWords(r api.Ref) (string, bool) {
	switch {
	case !isName(r.Name) || r.Thread < -1 || r.Thread > 9999:
		return "", false
	case r.Thread < 0:
		return r.Name, true
	}
	return strings.Join([]string{strconv.Itoa(r.Thread), r.Name}, ":"), true
}

// checkPart holds an answer against a text that a part has, or against ErrTest.
func checkPart(t *testing.T, what any, got string, err api.Errno, want string, ok bool) {
	t.Helper()
	wrong := api.OK
	if !ok {
		want, wrong = "", api.ErrTest
	}
	if got != want || err != wrong {
		t.Errorf("%.200s: %.200q, %d; want %.200q, %d", fmt.Sprint(what), got, err, want, wrong)
	}
}

// 8.1: the chapter's examples, and the others that are ordinary.
func TestPartsExamples(t *testing.T) {
	for want, in := range map[string]api.Instr{
		"MOV EAX,[x]":          {Op: api.OLoad, Reg: "EAX", Loc: "x"},
		"MOV [x],$-1":          {Op: api.OStoreImm, Loc: "x", Imm: -1},
		"LOCK CMPXCHG [x],EBX": {Op: api.OCmpxchg, Loc: "x", Src: "EBX"},
		"MFENCE":               {Op: api.OFence},
		"MOV EAX,$0":           {Op: api.OMovImm, Reg: "EAX"},
		"MOV EAX,EBX":          {Op: api.OMovReg, Reg: "EAX", Src: "EBX"},
		"MOV [x],EBX":          {Op: api.OStoreReg, Loc: "x", Src: "EBX"},
		"XCHG [x],EAX":         {Op: api.OXchg, Loc: "x", Reg: "EAX"},
		"LOCK XADD [x],EAX":    {Op: api.OXadd, Loc: "x", Reg: "EAX"},
	} {
		got, err := print.Instr(in)
		checkPart(t, in, got, err, want, true)
	}
	got, err := print.Instr(api.Instr{Op: api.OMovReg, Reg: "EAX"})
	checkPart(t, "OMovReg EAX and nothing", got, err, "", false)
	for want, r := range map[string]api.Ref{"x": loc("x"), "0:EAX": reg(0, "EAX"), "9999:R15": reg(9999, "R15")} {
		got, err := print.Ref(r)
		checkPart(t, r, got, err, want, true)
	}
	for want, x := range map[string]api.Init{
		"x=0":                        {Ref: loc("x")},
		"3:EAX=-7":                   {Ref: reg(3, "EAX"), Value: -7},
		"y=9223372036854775807":      {Ref: loc("y"), Value: math.MaxInt64},
		"10:R8=-9223372036854775808": {Ref: reg(10, "R8"), Value: math.MinInt64},
	} {
		got, err := print.Init(x)
		checkPart(t, x, got, err, want, true)
	}
}

// 8.1: references with each thread around the bounds and each kind of name, and settings of them.
func TestRefs(t *testing.T) {
	threads := []int{math.MinInt, math.MinInt32, -10000, -3, math.MaxInt32, math.MaxInt, 1<<32 - 1, 1 << 32}
	for k := -2; k <= 10002; k++ {
		threads = append(threads, k)
	}
	for _, k := range threads {
		for _, name := range []string{"x", "EAX", "", "1"} {
			checkRef(t, reg(k, name))
		}
	}
	for _, name := range slices.Concat(someNames(), someOthers()) {
		for _, k := range []int{-2, -1, 0, 9999, 10000} {
			checkRef(t, reg(k, name))
		}
	}
	for a := range 256 {
		checkRef(t, loc(string([]byte{byte(a)})))
		for _, ahead := range []string{"x", "x+", "x-", "."} {
			checkRef(t, loc(ahead+string([]byte{byte(a)})))
			checkRef(t, reg(1, ahead+string([]byte{byte(a)})+"y"))
		}
	}
}

func checkRef(t *testing.T, r api.Ref) {
	t.Helper()
	want, ok := refWords(r)
	got, err := print.Ref(r)
	checkPart(t, r, got, err, want, ok)
	for _, v := range []int64{0, 1, -1, math.MinInt64} {
		x := api.Init{Ref: r, Value: v}
		got, err := print.Init(x)
		checkPart(t, x, got, err, want+"="+strconv.FormatInt(v, 10), ok)
	}
}

// forms is each instruction's text, as the chapter has it.
func forms() map[int]string {
	return map[int]string{
		api.OMovImm:   "MOV Reg,$Imm",
		api.OMovReg:   "MOV Reg,Src",
		api.OLoad:     "MOV Reg,[Loc]",
		api.OStoreImm: "MOV [Loc],$Imm",
		api.OStoreReg: "MOV [Loc],Src",
		api.OFence:    "MFENCE",
		api.OXchg:     "XCHG [Loc],Reg",
		api.OCmpxchg:  "LOCK CMPXCHG [Loc],Src",
		api.OXadd:     "LOCK XADD [Loc],Reg",
	}
}

// instrWords is the text of an instruction, and whether it has one: what its form names is what it uses.
func instrWords(in api.Instr) (string, bool) {
	form, ok := forms()[in.Op]
	for field, name := range map[string]string{"Reg": in.Reg, "Src": in.Src, "Loc": in.Loc} {
		if strings.Contains(form, field) {
			ok = ok && isName(name)
		} else {
			ok = ok && name == ""
		}
	}
	if !ok || in.Imm != 0 && !strings.Contains(form, "Imm") {
		return "", false
	}
	return strings.NewReplacer("Reg", in.Reg, "Src", in.Src, "Loc", in.Loc, "Imm", strconv.FormatInt(in.Imm, 10)).Replace(form), true
}

// checkInstr holds an instruction's text against its form, and reads it back.
func checkInstr(t *testing.T, in api.Instr) {
	t.Helper()
	want, ok := instrWords(in)
	got, err := print.Instr(in)
	checkPart(t, in, got, err, want, ok)
	if !ok {
		return
	}
	if back, err := litmus.Instruction(got); back != in || err != nil {
		t.Errorf("Instruction(%q): %v, %v; want %v", got, back, err, in)
	}
}

// 8.1, 8.3: every Op with every mixture of fields.
func TestInstrs(t *testing.T) {
	ops := []int{math.MinInt, -1, 0, 1, 2, 3, 4, 5, 6, 7, 8, 9, 10, 11, 255, 257, 1<<32 + 1, math.MaxInt}
	names := []string{"", "EAX", "x", "1", "Reg", "Src", "Loc", "Imm"}
	for _, op := range ops {
		for _, r := range names {
			for _, s := range names {
				for _, l := range names {
					for _, v := range []int64{0, 1, -1, math.MaxInt64, math.MinInt64} {
						checkInstr(t, api.Instr{Op: op, Reg: r, Src: s, Loc: l, Imm: v})
					}
				}
			}
		}
	}
}

// 8.1, 8.3: each field with each kind of name, and with what is none.
func TestInstrNames(t *testing.T) {
	for op := range forms() {
		for _, s := range slices.Concat(someNames(), someOthers()) {
			for _, u := range []string{"", "y"} {
				for _, v := range []string{"", "z"} {
					checkInstr(t, api.Instr{Op: op, Reg: s, Src: u, Loc: v})
					checkInstr(t, api.Instr{Op: op, Reg: u, Src: s, Loc: v})
					checkInstr(t, api.Instr{Op: op, Reg: u, Src: v, Loc: s})
					checkInstr(t, api.Instr{Op: op, Reg: s, Loc: s, Src: u})
				}
			}
		}
	}
}
