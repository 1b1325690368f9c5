package read

import (
	"cmp"
	"slices"

	"alidade/api"
	"alidade/gcd"
	"alidade/rat"
	"alidade/term"
	"alidade/whole"
)

// sum is a sum of multiples of variables, rising, no coef 0, and a number. Parts of it may be parts of others as well: none of them is changed.
type sum struct {
	parts []multiple
	add   api.Rat
}

// multiple is a variable, so many times.
type multiple struct {
	v    int
	coef api.Rat
}

// always is a call that makes one of some sums, and tells yes, as that is linear whatever they are.
func always(join func(l []sum) sum) func(l []sum) (sum, bool) {
	return func(l []sum) (sum, bool) { return join(l), true }
}

// total is the sum of some sums.
func total(l []sum) sum {
	t := sum{add: rat.Int(0)}
	var parts []multiple
	for _, s := range l {
		t.add = plus(t.add, s.add)
		parts = append(parts, s.parts...)
	}
	// Of the same variable they stay in their row, as what is too long on the way is 0.
	slices.SortStableFunc(parts, func(p, q multiple) int { return cmp.Compare(p.v, q.v) })
	for _, p := range parts {
		if last := len(t.parts) - 1; last >= 0 && t.parts[last].v == p.v {
			t.parts[last].coef = plus(t.parts[last].coef, p.coef)
		} else {
			t.parts = append(t.parts, p)
		}
	}
	return t.proper()
}

// less is the first one of some sums, less the others; of one alone it is that one, turned about.
func less(l []sum) sum {
	if len(l) == 1 {
		return l[0].each(rat.Neg)
	}
	signed := []sum{l[0]}
	for _, s := range l[1:] {
		signed = append(signed, s.each(rat.Neg))
	}
	return total(signed)
}

// turned is the second one of two sums, less the first one.
func turned(l []sum) sum {
	return less([]sum{l[1], l[0]})
}

// product is the product of two sums, if one of them has no variables.
func product(l []sum) (s sum, is bool) {
	many, times := l[0], l[1]
	if !times.isNumber() {
		many, times = times, many
	}
	if !times.isNumber() {
		return sum{}, false
	}
	return many.each(func(x api.Rat) api.Rat { return rat.Mul(x, times.add) }), true
}

// quotient is the first one of two sums, by the second one, if neither has variables, and that is not 0.
func quotient(l []sum) (s sum, is bool) {
	if !l[0].isNumber() || !l[1].isNumber() || isNone(l[1].add) {
		return sum{}, false
	}
	x, e := rat.Div(l[0].add, l[1].add)
	if e != api.OK {
		x = rat.Int(0)
	}
	return sum{add: x}, true
}

// plus is the sum of two quotients. What is 0 changes nothing, however long the other one is.
func plus(a, b api.Rat) api.Rat {
	switch {
	case isNone(a):
		return b
	case isNone(b):
		return a
	}
	return rat.Add(a, b)
}

// isNone tells whether a quotient is 0.
func isNone(x api.Rat) bool { return whole.Sign(x.Num) == 0 }

// isNumber tells whether a sum has no variables.
func (s sum) isNumber() bool { return len(s.parts) == 0 }

// each is a sum of what a call makes of each of its numbers.
func (s sum) each(call func(x api.Rat) api.Rat) sum {
	t := sum{add: call(s.add)}
	for _, p := range s.parts {
		t.parts = append(t.parts, multiple{p.v, call(p.coef)})
	}
	return t.proper()
}

// proper is a sum of its own without what is 0 times a variable.
func (s sum) proper() sum {
	s.parts = slices.DeleteFunc(s.parts, func(p multiple) bool { return isNone(p.coef) })
	return s
}

// whole is a sum times the least number above 0 by which all its numbers are whole.
func (s sum) whole() api.Term {
	least := s.add.Den
	for _, p := range s.parts {
		least = gcd.Lcm(least, p.coef.Den)
	}
	// The product of both quotients would be 0 where they are too long, also if it is short itself.
	taken := func(x api.Rat) api.Int {
		times, _ := term.Exact(term.Num(least), x.Den)
		n, _ := rat.Make(whole.Mul(x.Num, times.Add), whole.Of(1))
		return n.Num
	}
	var parts []api.Part
	for _, p := range s.parts {
		parts = append(parts, api.Part{Var: p.v, Coef: taken(p.coef)})
	}
	t, _ := term.Of(parts, taken(s.add))
	return t
}
