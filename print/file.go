package print

import (
	"strconv"
	"strings"

	"weir/api"
	"weir/cond"
)

// pen writes pieces behind all that has been written, and tells whether there was room for all of it.
type pen func(pieces ...string) bool

// writeTest writes a test that can be written.
func writeTest(t api.Test, put pen) {
	put("X86 ", t.Name, "\n")
	if t.Doc != "" {
		put("\"", t.Doc, "\"\n")
	}
	put("{\n")
	for _, x := range t.Inits {
		put(initText(x), ";\n")
	}
	put("}\n")
	writeRows(t.Threads, put)
	writeWatch(t.Watch, put)
	question, _ := cond.Text(t.Cond)
	put(quantText(t.Quant), " ", question, "\n")
}

// writeRows ends as soon as there is no room: a few long columns and many short ones have far more cells than instructions.
func writeRows(threads [][]api.Instr, put pen) {
	widths, rows := measure(threads)
	last := len(threads) - 1
	for row := range rows {
		for column, l := range threads {
			s := cell(l, column, row)
			end := " |"
			if column == last {
				end = " ;\n"
			}
			if !put(" ", s, strings.Repeat(" ", widths[column]-len(s)), end) {
				return
			}
		}
	}
}

// measure is how wide each column is, and how many rows there are.
func measure(threads [][]api.Instr) ([]int, int) {
	widths := make([]int, len(threads))
	rows := 0
	for column, l := range threads {
		rows = max(rows, len(l)+1)
		for row := range len(l) + 1 {
			widths[column] = max(widths[column], len(cell(l, column, row)))
		}
	}
	return widths, rows
}

// cell is what a thread's column has in a row: its head, then its instructions, then nothing.
func cell(l []api.Instr, column, row int) string {
	switch {
	case row == 0:
		return "P" + strconv.Itoa(column)
	case row <= len(l):
		return instrText(l[row-1])
	}
	return ""
}

func writeWatch(watch []api.Ref, put pen) {
	if len(watch) == 0 {
		return
	}
	put("locations [")
	for i, r := range watch {
		if i > 0 {
			put(" ")
		}
		put(refText(r), ";")
	}
	put("]\n")
}
