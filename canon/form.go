package canon

import (
	"cmp"
	"slices"
	"strings"

	"weir/api"
	"weir/odo"
	"weir/print"
	"weir/prog"
)

// formName is the name of all canonical forms.
const formName = "t"

// form is a test's canonical form, and how it comes about.
type form struct {
	test   api.Test
	text   string
	by     api.Renaming // of the first order that makes it
	orders int          // how many make it
}

// formOf is the least of a test's forms. Where one is too long all are, as they are as long as each other.
func formOf(t api.Test) (form, api.Errno) {
	p, e := prog.Of(t)
	if e != api.OK {
		return form{}, e
	}
	orders, e := odo.Orders(len(t.Threads))
	if e != api.OK {
		return form{}, e
	}
	told, regs := stripped(t), regChanges(t, p)
	var least form
	for order := range orders.All() {
		r := api.Renaming{Threads: placesIn(order), Regs: regs, Locs: locChanges(t, p, order)}
		x := renamed(told, r)
		slices.SortFunc(x.Inits, byNames)
		text, e := print.Text(x)
		if e != api.OK {
			return form{}, e
		}
		switch {
		case least.orders == 0 || text < least.text:
			least = form{test: x, text: text, by: r, orders: 1}
		case text == least.text:
			least.orders++
		}
	}
	return least, api.OK
}

// stripped is a test without what its forms leave out.
func stripped(t api.Test) api.Test {
	// Of the instructions alone: its names are those that they name.
	bare, _ := prog.Of(api.Test{Name: formName, Threads: t.Threads, Quant: api.Exists, Cond: api.Cond{{Op: api.CTrue}}})
	var told []api.Init
	for _, x := range t.Inits {
		if _, named := prog.Index(bare, x.Ref); x.Value != 0 || !named {
			told = append(told, x)
		}
	}
	t.Name, t.Doc, t.Inits = formName, "", told
	return t
}

// byNames holds settings against each other as prog.Names has their names: registers thread by thread, then locations.
func byNames(a, b api.Init) int {
	return cmp.Or(cmp.Compare(rank(a.Ref), rank(b.Ref)), strings.Compare(a.Ref.Name, b.Ref.Name))
}

func rank(r api.Ref) int {
	if r.Thread == -1 {
		return api.MaxThreads
	}
	return r.Thread
}

// placesIn is for each thread its place in an order.
func placesIn(order []int) []int {
	places := make([]int, len(order))
	for i, thread := range order {
		places[thread] = i
	}
	return places
}
