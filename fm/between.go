package fm

import (
	"slices"

	"alidade/api"
	"alidade/atom"
	"alidade/rat"
	"alidade/rows"
	"alidade/term"
	"alidade/whole"
)

// end is where a variable's room ends on one side.
type end struct {
	there  bool // it does end on that side
	at     api.Rat
	strict bool // that number itself is not in it
}

// room is what rows leave to a variable, the others having values.
type room struct{ low, up end }

// Between is a value of a variable by which, with the others' values, all rows are true (P24.2).
func Between(l []rows.Row, v int, values []api.Rat) (api.Rat, bool) {
	mayNot := func(r rows.Row) bool { return !rows.May(r) }
	if v < 0 || v >= api.MaxVars || slices.ContainsFunc(l, mayNot) {
		return api.Rat{}, false
	}
	isFalseByZero := func(r rows.Row) bool {
		a := api.Atom{Kind: r.Atom.Kind, Term: term.Without(r.Atom.Term, v)}
		return !atom.Holds(a, values)
	}
	if !slices.ContainsFunc(l, isFalseByZero) {
		return rat.Int(0), true
	}
	left, is := roomOf(l, v, values)
	if !is {
		return api.Rat{}, false
	}
	return left.number()
}

// roomOf is what rows leave to a variable; no: one that has it not is false, or an end would be too long.
func roomOf(l []rows.Row, v int, values []api.Rat) (left room, is bool) {
	for _, r := range l {
		b := bounds(r, v)
		if b == (bound{}) {
			if !atom.Holds(r.Atom, values) {
				return room{}, false
			}
			continue
		}
		e, fits := endOf(r, v, values)
		if !fits {
			return room{}, false
		}
		// An equation, which bounds from both sides, leaves its own value alone.
		if b.below {
			left.low = left.low.or(e, 1)
		}
		if b.above {
			left.up = left.up.or(e, -1)
		}
	}
	return left, true
}

// endOf is where a row that has a variable ends its room; no: that would be too long.
func endOf(r rows.Row, v int, values []api.Rat) (end, bool) {
	rest := term.Value(term.Without(r.Atom.Term, v), values)
	times, num := lowest(term.Coef(r.Atom.Term, v), rest.Num)
	den, fits := multiple(term.Num(rest.Den), times)
	at := api.Rat{Num: whole.Neg(num), Den: den.Add}
	return end{there: true, at: at, strict: r.Atom.Kind == api.Lt}, fits
}

// or is that of two ends, the second one being there, that leaves less: the greater one, or by the other sign the less one.
func (e end) or(other end, sign int) end {
	if !e.there {
		return other
	}
	switch by := sign * compare(other.at, e.at); {
	case by > 0:
		return other
	case by == 0:
		e.strict = e.strict || other.strict
	}
	return e
}

// number is one that is in a room in which 0 is not; no: there is none, or it would be too long.
func (r room) number() (api.Rat, bool) {
	switch {
	case !r.up.there:
		return plus(r.low.at, 1)
	case !r.low.there:
		return plus(r.up.at, -1)
	}
	switch by := compare(r.low.at, r.up.at); {
	case by > 0, by == 0 && (r.low.strict || r.up.strict):
		return api.Rat{}, false
	case by == 0:
		return r.low.at, true
	}
	return middle(r.low.at, r.up.at)
}
