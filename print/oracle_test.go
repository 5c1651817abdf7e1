package print_test

import (
	"fmt"
	"reflect"
	"strconv"
	"strings"

	"weir/api"
	"weir/cond"
	"weir/word"
)

// dice is a row of numbers that look unruly and are the same at every run.
func dice(seed uint64) func(n int) int {
	return func(n int) int {
		seed += 0x9e3779b97f4a7c15
		z := (seed ^ seed>>30) * 0xbf58476d1ce4e5b9
		z = (z ^ z>>27) * 0x94d049bb133111eb
		return int((z ^ z>>31) % uint64(n))
	}
}

// same tells whether two tests are the same, a list that is empty being nil or not.
func same(a, b api.Test) bool { return reflect.DeepEqual(evened(a), evened(b)) }

func evened(t api.Test) api.Test {
	t.Inits = append([]api.Init{}, t.Inits...)
	t.Watch = append([]api.Ref{}, t.Watch...)
	t.Cond = append(api.Cond{}, t.Cond...)
	threads := [][]api.Instr{}
	for _, l := range t.Threads {
		threads = append(threads, append([]api.Instr{}, l...))
	}
	t.Threads = threads
	return t
}

// fileWords is the text of a test that can be written, line by line.
func fileWords(x api.Test) string {
	lines := []string{"X86 " + x.Name}
	if len(x.Doc) > 0 {
		lines = append(lines, `"`+x.Doc+`"`)
	}
	lines = append(lines, "{")
	for _, i := range x.Inits {
		s, _ := refWords(i.Ref)
		lines = append(lines, fmt.Sprintf("%s=%d;", s, i.Value))
	}
	lines = append(lines, "}")
	lines = append(lines, table(x.Threads)...)
	var watch []string
	for _, r := range x.Watch {
		s, _ := refWords(r)
		watch = append(watch, s+";")
	}
	if len(watch) > 0 {
		lines = append(lines, "locations ["+strings.Join(watch, " ")+"]")
	}
	c, _ := cond.Text(x.Cond)
	lines = append(lines, []string{"", "exists", "~exists", "forall"}[x.Quant]+" "+c)
	return strings.Join(lines, "\n") + "\n"
}

// table is the rows, grown column by column: each cell is put behind what its row has, and then all rows are made as long as the longest.
func table(threads [][]api.Instr) []string {
	most := 0
	for _, l := range threads {
		most = max(most, len(l))
	}
	rows := make([][]byte, most+1)
	for k, l := range threads {
		rows[0] = append(rows[0], fmt.Sprintf(" P%d", k)...)
		longest := len(rows[0])
		for i, row := range rows[1:] {
			row = append(row, ' ')
			if i < len(l) {
				s, _ := instrWords(l[i])
				row = append(row, s...)
			}
			longest = max(longest, len(row))
			rows[i+1] = row
		}
		end := " |"
		if k == len(threads)-1 {
			end = " ;"
		}
		for i, row := range rows {
			for len(row) < longest {
				row = append(row, ' ')
			}
			rows[i] = append(row, end...)
		}
	}
	var out []string
	for _, row := range rows {
		out = append(out, string(row))
	}
	return out
}

// randomTest is a test that can be written, with instructions of all kinds and columns of all lengths.
func randomTest(roll func(int) int) api.Test {
	names := someNames()
	name := func() string { return names[roll(len(names))] }
	ref := func() api.Ref { return api.Ref{Thread: []int{-1, -1, 0, 1, 9999}[roll(5)], Name: name()} }
	value := func() int64 { return []int64{0, 1, -1, 1<<63 - 1, -1 << 63, 255}[roll(6)] }
	x := api.Test{Name: name(), Doc: []string{"", "a (* b | ; }", "é $%\t\r\x00\xff"}[roll(3)], Quant: 1 + roll(3)}
	for range roll(4) {
		x.Inits = append(x.Inits, api.Init{Ref: ref(), Value: value()})
	}
	for range 1 + roll([]int{1, 4, 14}[roll(3)]) {
		var l []api.Instr
		for range roll(5) {
			l = append(l, randomInstr(roll, name, value))
		}
		x.Threads = append(x.Threads, l)
	}
	for range roll(4) {
		x.Watch = append(x.Watch, ref())
	}
	x.Cond = randomCond(roll, 1+roll(5))
	return x
}

func randomInstr(roll func(int) int, name func() string, value func() int64) api.Instr {
	in := api.Instr{Op: 1 + roll(9)}
	form := forms()[in.Op]
	if strings.Contains(form, "Reg") {
		in.Reg = name()
	}
	if strings.Contains(form, "Src") {
		in.Src = name()
	}
	if strings.Contains(form, "Loc") {
		in.Loc = name()
	}
	if strings.Contains(form, "Imm") {
		in.Imm = value()
	}
	return in
}

func randomCond(roll func(int) int, leaves int) api.Cond {
	if leaves == 1 {
		c := api.Cond{is(api.Ref{Thread: roll(3) - 1, Name: []string{"x", "true", "EAX"}[roll(3)]}, int64(roll(3)-1))}
		if roll(5) == 0 {
			c[0] = api.Node{Op: api.CTrue}
		}
		if roll(4) == 0 {
			c = append(c, api.Node{Op: api.CNot})
		}
		return c
	}
	k := 1 + roll(leaves-1)
	a, b := randomCond(roll, k), randomCond(roll, leaves-k)
	for i, n := range b {
		if n.Op != api.CIs && n.Op != api.CTrue {
			b[i].A += len(a)
		}
		if n.Op == api.CAnd || n.Op == api.COr {
			b[i].B += len(a)
		}
	}
	c := append(append(api.Cond{}, a...), b...)
	return append(c, api.Node{Op: api.CAnd + roll(2), A: len(a) - 1, B: len(a) + len(b) - 1})
}

// loose writes a test with unruly blanks and comments, numbers and references in all their ways, rows as they come, and brackets that need not be.
type loose struct {
	roll func(int) int
	out  strings.Builder
}

func (w *loose) put(words ...string) {
	for _, s := range words {
		w.out.WriteString(s)
		w.out.WriteString([]string{" ", "\n", "\t\r\n", " (* a (* | *) ; *) ", "(**)", "  "}[w.roll(6)])
	}
}

func (w *loose) number(v int64) {
	w.put([]string{word.Text(v), word.Hex(v), word.Unsigned(v), "0" + word.Unsigned(v)}[w.roll(4)])
}

func (w *loose) ref(r api.Ref) {
	switch {
	case r.Thread >= 0:
		w.put(fmt.Sprintf("%0*d", 1+w.roll(4), r.Thread), ":", r.Name)
	case w.roll(2) == 0:
		w.put("[", r.Name, "]")
	default:
		w.put(r.Name)
	}
}

func (w *loose) instr(in api.Instr) {
	form := forms()[in.Op]
	for _, sign := range []string{"[", "]", ",", "$"} {
		form = strings.ReplaceAll(form, sign, " "+sign+" ")
	}
	for _, field := range strings.Fields(form) {
		switch field {
		case "Reg":
			w.put(in.Reg)
		case "Src":
			w.put(in.Src)
		case "Loc":
			w.put(in.Loc)
		case "Imm":
			w.number(in.Imm)
		default:
			w.put(field)
		}
	}
}

// list writes items with ; between, and perhaps one behind.
func (w *loose) list(n int, item func(i int)) {
	for i := range n {
		item(i)
		if i < n-1 || w.roll(2) == 0 {
			w.put(";")
		}
	}
}

func (w *loose) rows(threads [][]api.Instr) {
	done := make([]int, len(threads))
	for left := true; left || w.roll(3) == 0; {
		left = false
		for k, l := range threads {
			if k > 0 {
				w.put("|")
			}
			if done[k] < len(l) && w.roll(3) > 0 {
				w.instr(l[done[k]])
				done[k]++
			}
			left = left || done[k] < len(l)
		}
		w.put(";")
	}
}

func (w *loose) cond(c api.Cond, i int) {
	for open := w.roll(3); open > 0; open-- {
		w.put("(")
		defer w.put(")")
	}
	part := func(i int) {
		if c[i].Op == api.CAnd || c[i].Op == api.COr {
			w.put("(")
			defer w.put(")")
		}
		w.cond(c, i)
	}
	switch n := c[i]; n.Op {
	case api.CTrue:
		w.put("true")
	case api.CIs:
		w.ref(n.Ref)
		w.put("=")
		w.number(n.Value)
	case api.CNot:
		w.put("~")
		part(n.A)
	default:
		part(n.A)
		w.put(map[int]string{api.CAnd: `/\`, api.COr: `\/`}[n.Op])
		part(n.B)
	}
}

func (w *loose) file(x api.Test) string {
	w.put("", "X86", x.Name)
	if x.Doc != "" || w.roll(2) == 0 {
		w.put(`"` + x.Doc + `"`)
	}
	w.put("{")
	w.list(len(x.Inits), func(i int) {
		w.ref(x.Inits[i].Ref)
		w.put("=")
		w.number(x.Inits[i].Value)
	})
	w.put("}", "P0")
	for k := 1; k < len(x.Threads); k++ {
		w.put("|", "P"+strconv.Itoa(k))
	}
	w.put(";")
	w.rows(x.Threads)
	if len(x.Watch) > 0 || w.roll(2) == 0 {
		w.put("locations", "[")
		w.list(len(x.Watch), func(i int) { w.ref(x.Watch[i]) })
		w.put("]")
	}
	w.put(strings.Fields(map[int]string{api.Exists: "exists", api.NotExists: "~ exists", api.Forall: "forall"}[x.Quant])...)
	w.cond(x.Cond, len(x.Cond)-1)
	return w.out.String()
}
