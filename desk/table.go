package desk

import (
	"strings"

	"weir/api"
	"weir/lexis"
)

// What must stand at a place among the words behind a command's own.
const (
	placePut   = 'N' // a name under which is put
	placeTest  = 'T' // a test's name
	placeModel = 'M' // a model's name
	placeItem  = 'I' // an item's name
	placeKind  = 'K' // a model's word
	placeWords = 'W' // any words, one or more: the last place
	placeBlock = 'B' // a block: the last place
)

// row is a command: what must stand at the places behind its word, and what it does.
type row struct {
	places string
	do     func(given) (string, error)
}

// given is what stands at a command's places.
type given struct {
	under string
	tests []api.Test
	model api.Model
	name  string // of the item
	item  item
	kind  int
	words []string
	block string
}

// rows is the table of all commands.
func (d *Desk) rows() map[string]row {
	return map[string]row{
		"test":   {"NB", d.test},
		"cycle":  {"NW", d.cycle},
		"model":  {"NB", d.model},
		"known":  {"NK", d.known},
		"form":   {"NT", d.form},
		"copy":   {"NI", d.copy},
		"drop":   {"I", d.drop},
		"items":  {"", d.list},
		"show":   {"I", d.show},
		"same":   {"TT", d.same},
		"run":    {"TK", d.run},
		"allow":  {"TM", d.allow},
		"table":  {"", d.table},
		"size":   {"TK", d.size},
		"shows":  {"TK", d.shows},
		"play":   {"TKW", d.play},
		"story":  {"TKW", d.story},
		"why":    {"TK", d.why},
		"robust": {"T", d.robust},
		"fences": {"T", d.fences},
	}
}

// obey does a command, and answers what it tells.
func (d *Desk) obey(rows map[string]row, c command) (string, error) {
	r, ok := rows[c.words[0]]
	if !ok {
		return "", api.ErrCommand
	}
	if !fits(r.places, c) {
		return "", api.ErrWords
	}
	g, ok := d.find(r.places, c)
	if !ok {
		return "", api.ErrNone
	}
	return r.do(g)
}

// fits tells whether a command has as many words as there are places, each what must stand there, and a block just if it must have one.
func fits(places string, c command) bool {
	words := c.words[1:]
	if len(words) < len(places) || c.marked != strings.ContainsRune(places, placeBlock) {
		return false
	}
	if len(words) > len(places) && !strings.ContainsRune(places, placeWords) {
		return false
	}
	for i, place := range places {
		switch place {
		case placePut, placeTest, placeModel, placeItem:
			if !lexis.Name(words[i]) {
				return false
			}
		case placeKind:
			if _, ok := kindOf(words[i]); !ok {
				return false
			}
		}
	}
	return true
}

// find is what stands at the places of a command that fits; false, if a name names no item of the sort that must stand there.
func (d *Desk) find(places string, c command) (given, bool) {
	g := given{block: c.block}
	for i, place := range places {
		word, ok := c.words[i+1], true
		switch place {
		case placePut:
			g.under = word
		case placeTest:
			var t api.Test
			t, ok = d.testUnder(word)
			g.tests = append(g.tests, t)
		case placeModel:
			g.model, ok = d.modelUnder(word)
		case placeItem:
			g.name = word
			g.item, ok = d.items[word]
		case placeKind:
			g.kind, _ = kindOf(word)
		case placeWords:
			g.words = c.words[i+1:]
		}
		if !ok {
			return given{}, false
		}
	}
	return g, true
}
