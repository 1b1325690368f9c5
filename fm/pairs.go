package fm

import (
	"iter"

	"alidade/api"
	"alidade/atom"
	"alidade/budget"
	"alidade/rows"
	"alidade/term"
	"alidade/whole"
)

// half is a row that bounds a variable: how many times it has that, without the sign, and what else is in it.
type half struct {
	coef   api.Int
	rest   api.Term
	strict bool
	from   rows.Set
}

// pair is an upper row and a lower one.
type pair struct{ up, low half }

// sides are rows by the side on which they are, each in their row.
type sides struct{ stay, ups, lows []rows.Row }

// halfOf is a row that bounds a variable, as a half.
func halfOf(r rows.Row, v int) half {
	t := r.Atom.Term
	return half{whole.Abs(term.Coef(t, v)), term.Without(t, v), r.Atom.Kind == api.Lt, r.From}
}

// together is the row of the upper one's rest so many times, and the lower one's; no: a number would be too long.
func (p pair) together(ups, lows api.Int) (rows.Row, bool) {
	t, is := weighed(p.up.rest, ups, p.low.rest, lows)
	if !is {
		return rows.Row{}, false
	}
	a := api.Atom{Kind: api.Le, Term: t}
	if p.up.strict || p.low.strict {
		a.Kind = api.Lt
	}
	return rows.Row{Atom: a, From: p.up.from.Or(p.low.from)}, true
}

// short is what both come to together but for a divisor, which the canonical form has not; its atom may not be, if a number would be too long.
func (p pair) short() rows.Row {
	ups, lows := lowest(p.low.coef, p.up.coef)
	r, is := p.together(ups, lows)
	if !is {
		r.Atom = tooLong()
	}
	return r
}

// sidesOf are rows, none of them an equation that has the variable, by their sides.
func sidesOf(l []rows.Row, v int) sides {
	var s sides
	for _, r := range l {
		switch b := bounds(r, v); {
		case b.above:
			s.ups = append(s.ups, r)
		case b.below:
			s.lows = append(s.lows, r)
		default:
			s.stay = append(s.stay, r)
		}
	}
	return s
}

// pairs is how many pairs there are, or some number that is more than any budget has rows.
func (s sides) pairs() int {
	ups, lows := len(s.ups), len(s.lows)
	if lows > 0 && ups > api.MaxRows/lows {
		return api.MaxRows + 1
	}
	return ups * lows
}

// told tells the rows that there are when the variable has gone: those that stay, and then what each pair makes. None is made before it is asked for.
func (s sides) told(v int) iter.Seq[rows.Row] {
	return func(yield func(r rows.Row) bool) {
		for _, r := range s.stay {
			if !yield(r) {
				return
			}
		}
		for p := range each(halves(s.ups, v), halves(s.lows, v)) {
			if !yield(p.short()) {
				return
			}
		}
	}
}

// halves are rows that bound a variable, made canonical, by which their numbers are as short as can be.
func halves(l []rows.Row, v int) []half {
	var out []half
	for _, r := range l {
		r.Atom, _, _ = atom.Canon(api.Real, r.Atom)
		out = append(out, halfOf(r, v))
	}
	return out
}

// each tells the pairs: for each upper half each lower one.
func each(ups, lows []half) iter.Seq[pair] {
	return func(yield func(p pair) bool) {
		for _, up := range ups {
			for _, low := range lows {
				if !yield(pair{up, low}) {
					return
				}
			}
		}
	}
}

// paid are rows that are told, made canonical, and paid one by one, so that none is made behind one that is refused. Those that are true have gone, those that are false are still among them.
func paid(told iter.Seq[rows.Row], m *budget.Meter) ([]rows.Row, api.Errno) {
	var made []rows.Row
	for r := range told {
		a, truth, e := atom.Canon(api.Real, r.Atom)
		switch {
		case e != api.OK:
			// It is too long, which the meter is to say.
			a = r.Atom
			fallthrough
		case truth == atom.Open:
			r.Atom = a
			if e = m.Pay(a); e != api.OK {
				return nil, e
			}
		case truth == atom.Yes:
			continue
		}
		made = append(made, r)
	}
	return made, api.OK
}

// distinct are rows that are paid, put together.
func distinct(made []rows.Row, m *budget.Meter) (out []rows.Row, truth uint8, e api.Errno) {
	// By a meter of their own they are not paid once more.
	own, _ := budget.New(budget.Widest())
	out, truth, e = rows.Put(made, own)
	stay := len(out)
	if e != api.OK {
		// More stay than the widest budget has rows for, so there are more of all of them.
		stay = len(made)
	}
	if e = m.Rows(stay); e != api.OK {
		return nil, atom.Open, e
	}
	return out, truth, api.OK
}
