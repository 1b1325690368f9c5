package gauss

import (
	"iter"
	"slices"

	"alidade/api"
	"alidade/atom"
	"alidade/budget"
	"alidade/term"
	"alidade/whole"
)

// conjunction is what canonical forms that are told, each an atom and its truth, are together. Each one is asked for when those ahead of it are paid.
func conjunction(told iter.Seq2[api.Atom, uint8], m *budget.Meter) (out []api.Atom, truth uint8, e api.Errno) {
	for a, is := range told {
		switch is {
		case atom.No:
			truth = atom.No
		case atom.Open:
			// What a false one makes needless is paid all the same.
			if e = m.Pay(a); e != api.OK {
				return nil, atom.Open, e
			}
			out = append(out, a)
		}
	}
	if truth == atom.No {
		out = nil
	}
	slices.SortFunc(out, atom.Compare)
	out = slices.CompactFunc(out, atom.Same)
	if e = m.Rows(len(out)); e != api.OK {
		return nil, atom.Open, e
	}
	return out, truth, api.OK
}

// canonical tells the canonical forms of atoms.
func canonical(l []api.Atom) iter.Seq2[api.Atom, uint8] {
	return func(yield func(a api.Atom, truth uint8) bool) {
		for _, a := range l {
			c, truth, _ := atom.Canon(api.Real, a)
			if !yield(c, truth) {
				return
			}
		}
	}
}

// without tells the canonical forms of what the atoms of a conjunction become, as a variable goes by the equation that stands there; that goes, too.
func without(l []api.Atom, at, v int) iter.Seq2[api.Atom, uint8] {
	return func(yield func(a api.Atom, truth uint8) bool) {
		for k, a := range l {
			if k == at {
				continue
			}
			c, truth := become(a, l[at], v)
			if !yield(c, truth) {
				return
			}
		}
	}
}

// become is the canonical form of what a canonical atom becomes, as a variable goes by an equation.
func become(a, equation api.Atom, v int) (c api.Atom, truth uint8) {
	coef := term.Coef(a.Term, v)
	if whole.Sign(coef) == 0 {
		// So many times its term, it is the same when it is canonical.
		return a, atom.Open
	}
	// Divided by what divides both Coefs, it is the same, too, but by shorter numbers.
	times, less := lowest(term.Coef(equation.Term, v), coef)
	t, is := difference(term.Without(a.Term, v), times, term.Without(equation.Term, v), less)
	if !is {
		return tooLong(), atom.Open
	}
	c, truth, _ = atom.Canon(api.Real, api.Atom{Kind: a.Kind, Term: t})
	return c, truth
}

// lowest are two numbers, the first one not 0, divided by all that divides both, and turned so that the first one is greater than 0.
func lowest(a, b api.Int) (first, second api.Int) {
	const v = 0
	both := term.Add(term.Scale(term.Var(v), a), term.Num(b))
	// That is what an equation's canonical form is.
	c, _, _ := atom.Canon(api.Real, api.Atom{Kind: api.Eq, Term: both})
	return term.Coef(c.Term, v), c.Term.Add
}

// difference is one term so many times, less another one so many times; no: a number on the way would be too long.
func difference(a api.Term, times api.Int, b api.Term, less api.Int) (api.Term, bool) {
	a, isA := multiple(a, times)
	b, isB := multiple(b, less)
	d := term.Sub(a, b)
	// A number that would be too long is 0 there, by which the sum with b is not a.
	return d, isA && isB && term.Same(term.Add(d, b), a)
}

// multiple is a term so many times, which is not 0; no: a number would be too long.
func multiple(t api.Term, n api.Int) (api.Term, bool) {
	by := term.Scale(t, n)
	// A number that would be too long is 0 there, as no product is.
	return by, len(by.Parts) == len(t.Parts) && (whole.Sign(by.Add) == 0) == (whole.Sign(t.Add) == 0)
}

// tooLong is an atom that no budget has the limbs for.
func tooLong() api.Atom {
	return api.Atom{Term: api.Term{Add: api.Int{Limbs: make([]uint32, api.MaxLong+1)}}}
}
