package nnf

import (
	"math"

	"alidade/api"
	"alidade/atom"
	"alidade/budget"
	"alidade/whole"
)

// payer pays for what becomes of nodes.
type payer struct {
	by    uint8
	meter *budget.Meter
}

// claim is what becomes of a node, and how many nodes that has.
type claim struct {
	said api.Formula
	size int
}

// become is what becomes of a node. It is no deeper than the formula was, as there was a Not for each Or that denials make.
func (p payer) become(n node) (claim, api.Errno) {
	if n.op == api.Is {
		return p.becomeAtom(n)
	}
	var kids []api.Formula
	size := 1
	for _, kid := range n.kids {
		c, e := p.become(kid)
		if e != api.OK {
			return claim{}, e
		}
		switch {
		case n.isSettled() || kid.isSettled():
			continue
		case c.said.Op == n.op:
			kids = append(kids, c.said.Kids...)
			size += c.size - 1
		default:
			kids = append(kids, c.said)
			size += c.size
		}
		if len(kids) > 1 && size > api.MaxNodes {
			return claim{}, api.ErrBudget
		}
	}
	if len(kids) == 1 {
		return claim{kids[0], size - 1}, api.OK
	}
	return claim{api.Formula{Op: n.op, Kids: kids}, size}, api.OK
}

// becomeAtom is what becomes of an atom, or of what it is not.
func (p payer) becomeAtom(n node) (claim, api.Errno) {
	switch {
	case n.long:
		return claim{}, api.ErrBudget
	case n.denied:
		return p.becomeDenials(n.atom)
	}
	if e := p.meter.Pay(n.atom); e != api.OK {
		return claim{}, e
	}
	return claim{api.Formula{Op: api.Is, Atom: n.atom}, 1}, api.OK
}

// becomeDenials is what becomes of a canonical atom's denials.
func (p payer) becomeDenials(a api.Atom) (claim, api.Errno) {
	many := denials(a)
	if e := p.meter.Rows(many); e != api.OK {
		return claim{}, e
	}
	// An Or of so many would have one node more.
	if many >= api.MaxNodes {
		return claim{}, api.ErrBudget
	}
	either := node{op: api.Or}
	for k := range many {
		d, _ := atom.Deny(p.by, a, k)
		kid := leaf(p.by, d, false)
		kid.long = kid.long || isLost(d, whole.Abs(a.Term.Add), 1)
		either.kids = append(either.kids, kid)
	}
	return p.become(either)
}

// denials is how many denials an atom has, or the greatest int, if that is less.
func denials(a api.Atom) int {
	many := 0
	switch a.Kind {
	case api.Eq:
		// There is one on its other side, too.
		many++
		fallthrough
	case api.Le, api.Lt:
		many++
	case api.Div:
		mod, is := whole.Small(a.Mod)
		if !is {
			return math.MaxInt
		}
		many = mod - 1
	}
	return many
}
