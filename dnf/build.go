package dnf

import (
	"iter"
	"slices"

	"alidade/api"
	"alidade/budget"
)

// form is a form of sets of numbers, which stand for atoms.
type form struct {
	sets []set
	all  set // all numbers of the formula's atoms, also of those that stand in none of the sets any more
}

// builder makes the form of a formula without denials.
type builder struct {
	meter   *budget.Meter
	numbers []int // those of the atoms that are still to come, in their row
}

// build is a formula's form.
func (b *builder) build(f api.Formula) (form, api.Errno) {
	// Or of none has no set, as what is false; And of none has one of nothing, as what is true.
	var g form
	switch f.Op {
	case api.Is:
		g.all = setOf(b.numbers[:1])
		g.sets = []set{g.all}
		b.numbers = b.numbers[1:]
	case api.And, api.True:
		g.sets = []set{nil}
	}
	e := b.meter.Rows(len(g.sets))
	for k := 0; k < len(f.Kids) && e == api.OK; k++ {
		g, e = b.join(f.Op, g, f.Kids[k])
	}
	return g, e
}

// join is what was made so far of And, or Or, with one more kid.
func (b *builder) join(op uint8, g form, kid api.Formula) (form, api.Errno) {
	h, e := b.build(kid)
	if e != api.OK {
		return form{}, e
	}
	together := b.behind
	if op == api.And {
		together = b.eachWithEach
	}
	sets, e := together(g.sets, h.sets)
	if e != api.OK {
		return form{}, e
	}
	all := g.all.or(h.all)
	// What has nothing in common is short, put together, as each of them is: no kid's form has a set without numbers, as no kid is true by all values.
	if all.size() == g.all.size()+h.all.size() {
		return form{sets, all}, api.OK
	}
	var sure []bool
	if op == api.And {
		sets, sure = settled(g.sets, sets, len(h.sets))
	}
	return form{shortened(sets, sure), all}, api.OK
}

// behind are sets, one behind the other.
func (b *builder) behind(l, r []set) ([]set, api.Errno) {
	if e := b.meter.Rows(len(l) + len(r)); e != api.OK {
		return nil, e
	}
	return append(l, r...), api.OK
}

// eachWithEach are sets, put together two by two.
func (b *builder) eachWithEach(l, r []set) ([]set, api.Errno) {
	if e := b.meter.Rows(len(l) * len(r)); e != api.OK {
		return nil, e
	}
	var out []set
	for s, t := range pairs(l, r) {
		both := s.or(t)
		if e := b.meter.Rows(both.size()); e != api.OK {
			return nil, e
		}
		out = append(out, both)
	}
	return out, api.OK
}

// settled leaves of what each of some sets was put together to, so many each, the set itself, if it is among that, as all else there has all of it. Such a set is sure to stay: as the sets were short, nothing that was made of another one has its numbers alone.
func settled(l, made []set, each int) (sets []set, sure []bool) {
	for _, s := range l {
		own := made[:each]
		made = made[each:]
		// What was made of it has all of it.
		isItself := func(both set) bool { return both.size() == s.size() }
		is := slices.ContainsFunc(own, isItself)
		if is {
			own = []set{s}
		}
		sets = append(sets, own...)
		sure = append(sure, slices.Repeat([]bool{is}, len(own))...)
	}
	return sets, sure
}

// pairs tells each set of one list with each one of another list.
func pairs(l, r []set) iter.Seq2[set, set] {
	return func(yield func(s, t set) bool) {
		for _, s := range l {
			for _, t := range r {
				if !yield(s, t) {
					return
				}
			}
		}
	}
}
