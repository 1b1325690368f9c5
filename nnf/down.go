package nnf

import (
	"slices"

	"alidade/api"
	"alidade/atom"
	"alidade/budget"
	"alidade/whole"
)

// node is a formula whose Nots have gone down to its atoms. Where its kids settle it, whatever values are, its Op is True, or False; it has them still, as their atoms are paid.
type node struct {
	op     uint8 // True, False, Is, And, Or
	kids   []node
	atom   api.Atom // of Is: canonical
	denied bool     // of Is: what the atom is not is meant
	long   bool     // of Is: a number of the atom would be longer than one may be
}

// looker looks at atoms, as long as there are steps for them. Each one that stays open will be paid by one step or more, itself or its denials: so where a copy of the meter, which is told just one for each, has none any more, the meter will have none either.
type looker struct {
	by    uint8
	meter *budget.Meter // the copy
	short bool          // there was no step for one, so the others are not looked at
}

// down is what a formula that may be, and has no quantifiers, says, or, denied, what it does not.
func (l *looker) down(f api.Formula, denied bool) node {
	op := f.Op
	switch f.Op {
	case api.Is:
		return l.look(f.Atom, denied)
	case api.Not:
		return l.down(f.Kids[0], !denied)
	case api.True:
		// And of nothing is just that, Or of nothing the other one.
		op = api.And
	case api.False:
		op = api.Or
	}
	if denied {
		op = otherOf(op, api.And, api.Or)
	}
	var kids []node
	for _, kid := range f.Kids {
		kids = append(kids, l.down(kid, denied))
	}
	return node{op: settled(op, kids), kids: kids}
}

// look is an atom, or, denied, what it is not, if there is a step for it: else it is none that says anything.
func (l *looker) look(a api.Atom, denied bool) node {
	if l.short {
		return node{op: api.Is}
	}
	n := leaf(l.by, a, denied)
	l.short = !isSettled(n.op) && l.meter.Pay(api.Atom{}) != api.OK
	return n
}

// leaf is an atom, or, denied, what it is not.
func leaf(by uint8, a api.Atom, denied bool) node {
	c, truth, _ := atom.Canon(by, a)
	switch {
	case truth == atom.Open:
		return node{op: api.Is, atom: c, denied: denied, long: isLost(c, a.Term.Add, 0)}
	case (truth == atom.Yes) != denied:
		return node{op: api.True}
	}
	return node{op: api.False}
}

// settled is what And, or Or, of some kids is, whatever values are: True, or False, or else that Op itself.
func settled(op uint8, kids []node) uint8 {
	idle := api.True
	if op == api.Or {
		idle = api.False
	}
	end := otherOf(idle, api.True, api.False)
	switch {
	case slices.ContainsFunc(kids, func(n node) bool { return n.op == end }):
		return end
	case !slices.ContainsFunc(kids, func(n node) bool { return n.op != idle }):
		return idle
	}
	return op
}

// isSettled tells whether an Op is true, or false, whatever values are.
func isSettled(op uint8) bool { return op == api.True || op == api.False }

// otherOf is the one of two that another one is not.
func otherOf(op, one, two uint8) uint8 {
	if op == one {
		return two
	}
	return one
}

// isLost tells whether an atom's Add would be too long, and is 0 for that alone: it was more than so much, as which it would not have become 0.
func isLost(a api.Atom, was api.Int, most int) bool {
	return a.Kind != api.Div && whole.Sign(a.Term.Add) == 0 && whole.Cmp(was, whole.Of(most)) > 0
}
