package desk

import (
	"maps"
	"slices"

	"weir/api"
	"weir/cat"
	"weir/print"
)

// mostItems is how many items may lie on a desk.
const mostItems = 64

// item is what lies on a desk under a name.
type item interface {
	sort() string
	text() (string, api.Errno)
}

type testItem api.Test

func (t testItem) sort() string { return "test" }

func (t testItem) text() (string, api.Errno) { return print.Text(api.Test(t)) }

type modelItem api.Model

func (m modelItem) sort() string { return "model" }

func (m modelItem) text() (string, api.Errno) { return cat.Text(api.Model(m)) }

// put lays an item on the desk, unless an error has come in its place. No command changes an item, so that one may lie under several names.
func (d *Desk) put(name string, x item, err error) (string, error) {
	if err != nil {
		return "", err
	}
	if _, ok := d.items[name]; !ok && len(d.items) >= mostItems {
		return "", api.ErrLong
	}
	d.items[name] = x
	return "", nil
}

// names is the names of all items, rising.
func (d *Desk) names() []string { return slices.Sorted(maps.Keys(d.items)) }

// testUnder is the test that lies under a name.
func (d *Desk) testUnder(name string) (api.Test, bool) {
	t, ok := d.items[name].(testItem)
	return api.Test(t), ok
}

// modelUnder is the model that lies under a name.
func (d *Desk) modelUnder(name string) (api.Model, bool) {
	m, ok := d.items[name].(modelItem)
	return api.Model(m), ok
}
