package desk

import (
	"strings"

	"weir/canon"
	"weir/cat"
	"weir/cycle"
	"weir/model"
)

func (d *Desk) test(g given) (string, error) {
	t, err := testOf(g.block)
	return d.put(g.under, testItem(t), err)
}

func (d *Desk) cycle(g given) (string, error) {
	t, e := cycle.Test(g.words)
	return d.put(g.under, testItem(t), fault(e))
}

func (d *Desk) model(g given) (string, error) {
	m, err := cat.Parse(g.block)
	return d.put(g.under, modelItem(m), err)
}

func (d *Desk) known(g given) (string, error) {
	m, e := model.Known(g.kind)
	return d.put(g.under, modelItem(m), fault(e))
}

func (d *Desk) form(g given) (string, error) {
	t, _, e := canon.Form(g.tests[0])
	return d.put(g.under, testItem(t), fault(e))
}

func (d *Desk) copy(g given) (string, error) { return d.put(g.under, g.item, nil) }

func (d *Desk) drop(g given) (string, error) {
	delete(d.items, g.name)
	return "", nil
}

func (d *Desk) list(given) (string, error) {
	var out strings.Builder
	for _, name := range d.names() {
		out.WriteString(line(name, d.items[name].sort()))
	}
	return out.String(), nil
}

func (d *Desk) show(g given) (string, error) { return told(g.item.text()) }

func (d *Desk) table(given) (string, error) {
	var out strings.Builder
	for _, name := range d.names() {
		if t, ok := d.testUnder(name); ok {
			out.WriteString(verdicts(name, t))
		}
	}
	return out.String(), nil
}
