package model

import (
	"iter"

	"weir/api"
	"weir/rel"
)

// operator makes a node's value, over n events, out of those of its parts A and B; what it has no part for it leaves unread.
type operator func(n int, a, b api.Value) api.Value

// operators is the operators by their Op; that of 0 and that of XName are none's.
func operators() [api.XOn + 1]operator {
	return [...]operator{
		api.XZero:  func(n int, _, _ api.Value) api.Value { return relValue(api.Rel{N: n}) },
		api.XUnion: ofEither(rel.Union, func(a, b api.Set) api.Set { return a | b }),
		api.XMeet:  ofEither(rel.Meet, func(a, b api.Set) api.Set { return a & b }),
		api.XMinus: ofEither(rel.Minus, func(a, b api.Set) api.Set { return a &^ b }),
		api.XSeq:   func(_ int, a, b api.Value) api.Value { return relValue(rel.Compose(a.Rel, b.Rel)) },
		api.XCross: func(n int, a, b api.Value) api.Value { return relValue(rel.Cross(n, a.Set, b.Set)) },
		api.XNot:   not,
		api.XInv:   ofRel(rel.Inverse),
		api.XPlus:  ofRel(rel.Plus),
		api.XStar:  ofRel(rel.Star),
		api.XOpt:   ofRel(rel.Opt),
		api.XOn:    func(n int, a, _ api.Value) api.Value { return relValue(rel.On(n, a.Set)) },
	}
}

// ofEither is the operator on two relations or on two sets, by what it does to each.
func ofEither(rels func(a, b api.Rel) api.Rel, sets func(a, b api.Set) api.Set) operator {
	return func(_ int, a, b api.Value) api.Value {
		if a.Sort == api.SSet {
			return setValue(sets(a.Set, b.Set))
		}
		return relValue(rels(a.Rel, b.Rel))
	}
}

// ofRel is the operator on one relation.
func ofRel(does func(r api.Rel) api.Rel) operator {
	return func(_ int, a, _ api.Value) api.Value { return relValue(does(a.Rel)) }
}

func not(n int, a, _ api.Value) api.Value {
	if a.Sort == api.SSet {
		return setValue(everything(n) &^ a.Set)
	}
	return relValue(rel.Not(a.Rel))
}

// scope is an execution, and what names stand for there: those that were let, and those from the start that were asked for.
type scope struct {
	x     api.Exec
	names map[string]api.Value
	table [api.XOn + 1]operator
}

// values goes through what the terms of a model's rules stand for, by the rules' numbers. The model has nothing wrong.
func values(m api.Model, x api.Exec) iter.Seq2[int, api.Value] {
	return func(yield func(int, api.Value) bool) {
		s := scope{x: x, names: map[string]api.Value{}, table: operators()}
		for i, r := range m.Rules {
			v := s.term(r.Terms)
			if r.Kind == api.RLet {
				s.names[r.Name] = v
			}
			if !yield(i, v) {
				return
			}
		}
	}
}

// term is what a term stands for.
func (s scope) term(l []api.Term) api.Value {
	n, made := size(s.x.Events), make([]api.Value, len(l))
	for i, t := range l {
		if t.Op == api.XName {
			made[i] = s.name(t.Name)
		} else {
			made[i] = s.table[t.Op](n, made[t.A], made[t.B])
		}
	}
	return made[len(l)-1]
}

// name is what a name stands for. Models name the same relations again and again: what was asked for is kept.
func (s scope) name(name string) api.Value {
	v, ok := s.names[name]
	if !ok {
		v, _ = Base(s.x, name) // a name that no rule lets is one from the start
		s.names[name] = v
	}
	return v
}
