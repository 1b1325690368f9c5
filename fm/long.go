package fm

import (
	"slices"

	"alidade/api"
	"alidade/atom"
	"alidade/term"
	"alidade/whole"
)

// A number has so many pieces at most; a product of two of them, and a sum of some such, is not too long.
const (
	mostPieces = 4
	pieceLimbs = api.MaxLong / mostPieces
)

// weighed is one term so many times, and another one so many times, neither of these being 0; no: a number on the way would be too long.
func weighed(a api.Term, times api.Int, b api.Term, by api.Int) (api.Term, bool) {
	a, isA := multiple(a, times)
	b, isB := multiple(b, by)
	s := term.Add(a, b)
	// A number that would be too long is 0 there, by which the sum less b is not a.
	if !isA || !isB || !term.Same(term.Sub(s, b), a) {
		return api.Term{}, false
	}
	return s, true
}

// multiple is a term so many times, which is not 0; no: a number would be too long.
func multiple(t api.Term, n api.Int) (api.Term, bool) {
	by := term.Scale(t, n)
	// A number that would be too long is 0 there, as no product is.
	return by, len(by.Parts) == len(t.Parts) && (whole.Sign(by.Add) == 0) == (whole.Sign(t.Add) == 0)
}

// lowest are two numbers, the first one not 0, divided by all that divides both, and turned so that the first one is greater than 0.
func lowest(a, b api.Int) (first, second api.Int) {
	const v = 0
	both := term.Add(term.Scale(term.Var(v), a), term.Num(b))
	// That is what an equation's canonical form is.
	c, _, _ := atom.Canon(api.Real, api.Atom{Kind: api.Eq, Term: both})
	return term.Coef(c.Term, v), c.Term.Add
}

// plus is a quotient and a number; no: it would be too long. (Of two that are too long together rat tells no sum.)
func plus(x api.Rat, n int) (api.Rat, bool) {
	num, is := weighed(term.Num(x.Num), whole.Of(1), term.Num(x.Den), whole.Of(n))
	if !is {
		return api.Rat{}, false
	}
	return api.Rat{Num: num.Add, Den: x.Den}, true
}

// middle is half of the sum of two quotients, however long they are; no: it would be too long itself.
func middle(p, q api.Rat) (api.Rat, bool) {
	// By these both have one second number.
	ofP, ofQ := lowest(q.Den, p.Den)
	num, isNum := weighed(term.Num(p.Num), ofP, term.Num(q.Num), ofQ)
	den, isDen := weighed(term.Num(p.Den), ofP, term.Num(p.Den), ofP)
	if !isNum || !isDen {
		return api.Rat{}, false
	}
	second, first := lowest(den.Add, num.Add)
	return api.Rat{Num: first, Den: second}, true
}

// compare tells how two quotients stand, however long they are.
func compare(p, q api.Rat) int {
	// Products of their numbers may be too long, so there are sums for them by pieces, the least one first.
	var sums [2*mostPieces - 1]api.Int
	gather := func(a, b api.Int, call func(sum, product api.Int) api.Int) {
		for j, x := range pieces(a) {
			for k, y := range pieces(b) {
				sums[j+k] = call(sums[j+k], whole.Mul(x, y))
			}
		}
	}
	gather(p.Num, q.Den, whole.Add)
	gather(q.Num, p.Den, whole.Sub)
	lead := api.Int{}
	for _, s := range slices.Backward(sums[:]) {
		if len(lead.Limbs) > pieceLimbs+1 {
			// All sums behind are less, taken together.
			break
		}
		lead = whole.Add(raised(lead), s)
	}
	return whole.Sign(lead)
}

// pieces are a whole number's, the least one first, each with its sign.
func pieces(n api.Int) []api.Int {
	var l []api.Int
	for c := range slices.Chunk(n.Limbs, pieceLimbs) {
		for len(c) > 0 && c[len(c)-1] == 0 {
			c = c[:len(c)-1]
		}
		l = append(l, whole.Nat(c, n.Neg))
	}
	return l
}

// raised is a whole number, put ahead by a piece.
func raised(n api.Int) api.Int {
	if whole.Sign(n) == 0 {
		return n
	}
	return whole.Nat(slices.Concat(make([]uint32, pieceLimbs), n.Limbs), n.Neg)
}

// tooLong is an atom that no budget has the limbs for.
func tooLong() api.Atom {
	return api.Atom{Term: api.Term{Add: api.Int{Limbs: make([]uint32, api.MaxLong+1)}}}
}
