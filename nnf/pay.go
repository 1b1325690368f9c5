package nnf

import (
	"iter"
	"math"
	"slices"

	"alidade/api"
	"alidade/atom"
	"alidade/budget"
	"alidade/whole"
)

// payer pays for what becomes of nodes.
type payer struct {
	by    uint8
	meter *budget.Meter
	short bool // the meter has not enough steps, so it will refuse, and nothing is put together
}

// claim is what becomes of a node, and how many nodes that has.
type claim struct {
	said api.Formula
	size int
}

// become is what becomes of a node. It is no deeper than the formula was, as there was a Not for each Or that denials make.
func (p payer) become(n node) (claim, api.Errno) {
	if n.op == api.Is {
		return p.becomeAtom(n)
	}
	return p.together(n.op, slices.Values(n.kids))
}

// together is what becomes of nodes with an Op ahead of them, or of what they settle. Each of them is asked for when those ahead of it are paid.
func (p payer) together(op uint8, nodes iter.Seq[node]) (claim, api.Errno) {
	var kids []api.Formula
	size := 1
	for n := range nodes {
		c, e := p.become(n)
		if e != api.OK {
			return claim{}, e
		}
		switch {
		case p.short || isSettled(op) || isSettled(n.op):
			continue
		case c.said.Op == op:
			kids = append(kids, c.said.Kids...)
			size += c.size - 1
		default:
			kids = append(kids, c.said)
			size += c.size
		}
		if len(kids) > 1 && size > api.MaxNodes {
			return claim{}, api.ErrBudget
		}
	}
	if len(kids) == 1 {
		return claim{kids[0], size - 1}, api.OK
	}
	return claim{api.Formula{Op: op, Kids: kids}, size}, api.OK
}

// becomeAtom is what becomes of an atom, or of what it is not.
func (p payer) becomeAtom(n node) (claim, api.Errno) {
	switch {
	case n.long:
		return claim{}, api.ErrBudget
	case n.denied:
		return p.becomeDenials(n.atom)
	}
	if e := p.meter.Pay(n.atom); e != api.OK {
		return claim{}, e
	}
	return claim{api.Formula{Op: api.Is, Atom: n.atom}, 1}, api.OK
}

// becomeDenials is what becomes of a canonical atom's denials.
func (p payer) becomeDenials(a api.Atom) (claim, api.Errno) {
	many := denials(a)
	if e := p.meter.Rows(many); e != api.OK {
		return claim{}, e
	}
	// An Or of so many would have one node more.
	if many >= api.MaxNodes {
		return claim{}, api.ErrBudget
	}
	return p.together(api.Or, p.each(a, many))
}

// each tells a canonical atom's denials. One is made only when those ahead of it are paid, as there may be no step for it.
func (p payer) each(a api.Atom, many int) iter.Seq[node] {
	return func(yield func(node) bool) {
		for k := range many {
			d, _ := atom.Deny(p.by, a, k)
			n := leaf(p.by, d, false)
			n.long = n.long || isLost(d, whole.Abs(a.Term.Add), 1)
			if !yield(n) {
				return
			}
		}
	}
}

// denials is how many denials an atom has, or the greatest int, if that is less.
func denials(a api.Atom) int {
	many := 0
	switch a.Kind {
	case api.Eq:
		// There is one on its other side, too.
		many++
		fallthrough
	case api.Le, api.Lt:
		many++
	case api.Div:
		mod, is := whole.Small(a.Mod)
		if !is {
			return math.MaxInt
		}
		many = mod - 1
	}
	return many
}
