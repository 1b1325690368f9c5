package gauss_test

import (
	"math/big"
	"math/rand"
	"slices"
	"testing"

	"alidade/api"
	"alidade/atom"
	"alidade/budget"
	"alidade/dnf"
	"alidade/gauss"
	"alidade/rat"
	"alidade/whole"
)

// few are atoms of four variables, canonical or not; not many, so that the same ones meet often.
func few() list {
	return of(x(0), twice(0), le(0, 1, 3), lt(0, 0, 6), lt(2, 0, -4, 2, 6), lt(1, 0, -2, 2, 3), le(4, 0, 2, 1, 2), zero(0), eq(0, 0, -2), eq(3, 0, 2), eq(-2, 1, 2, 2, -4), eq(1, 1, -1, 2, 2), eq(0, 0, 1, 1, 1), eq(0, 0, 1, 1, -1), eq(2, 0, 2, 1, -2, 3, 4), eq(-1, 2, 3, 3, -2))
}

// settled are atoms that are true, or false.
func settled() list { return of(le(0), lt(-2), eq(0), le(1), lt(0), eq(-3)) }

// sparse is a term of some of four variables, with short Coefs.
func sparse(r *rand.Rand) api.Term {
	t := linear(r.Intn(9) - 4)
	for v := range 4 {
		if n := r.Intn(9) - 4; n != 0 && r.Intn(5) < 2 {
			t.Parts = append(t.Parts, api.Part{Var: v, Coef: whole.Of(n)})
		}
	}
	return t
}

// madeAtom is one of a few atoms, or of any; few of them are settled.
func madeAtom(r *rand.Rand) api.Atom {
	switch n := r.Intn(60); {
	case n < 2:
		return pick(r, settled()[:3])
	case n < 3:
		return pick(r, settled())
	case n < 20:
		return pick(r, few())
	case n < 30:
		return api.Atom{Kind: api.Eq, Term: sparse(r)}
	}
	return api.Atom{Kind: uint8(r.Intn(3)), Term: sparse(r)}
}

// madeAtoms are some of them.
func madeAtoms(r *rand.Rand) list {
	return each(r.Intn(9), func(int) api.Atom { return madeAtom(r) })
}

// lengthened is an atom of long numbers.
func lengthened(r *rand.Rand) api.Atom {
	number := func() api.Int {
		return api.Int{Neg: r.Intn(2) == 0, Limbs: slices.Repeat([]uint32{r.Uint32() | 1}, 1+r.Intn(4))}
	}
	return api.Atom{Kind: uint8(r.Intn(3)), Term: api.Term{Parts: []api.Part{{Var: 0, Coef: number()}, {Var: 3, Coef: number()}}, Add: number()}}
}

// madeValues are values for four variables, and sometimes for fewer.
func madeValues(r *rand.Rand) []api.Rat {
	return each(4-r.Intn(3)/2, func(int) api.Rat { return quotient(r.Intn(13)-6, 1+r.Intn(3)) })
}

// planted are atoms that are true by values, each scaled by some number.
func planted(r *rand.Rand, values []api.Rat) list {
	return each(1+r.Intn(8), func(int) api.Atom {
		t := sparse(r)
		sum := exact(t, values)
		den := int(sum.Denom().Int64())
		for k, p := range t.Parts {
			n, _ := whole.Small(p.Coef)
			t.Parts[k].Coef = whole.Of(n * den)
		}
		add, _ := whole.Small(t.Add)
		t.Add = whole.Of(add*den - int(sum.Num().Int64()))
		// Now it is 0.
		kind := uint8(r.Intn(3))
		if less := r.Intn(3); kind == api.Lt || kind == api.Le && less > 0 {
			t.Add = whole.Sub(t.Add, whole.Of(1+less*den))
		}
		return api.Atom{Kind: kind, Term: t}
	})
}

// exact is a term's value, as math/big has it.
func exact(t api.Term, values []api.Rat) *big.Rat {
	sum := new(big.Rat).SetInt(value(t.Add))
	for _, p := range t.Parts {
		if p.Var < len(values) {
			q := new(big.Rat).SetFrac(value(values[p.Var].Num), value(values[p.Var].Den))
			sum.Add(sum, q.Mul(q, new(big.Rat).SetInt(value(p.Coef))))
		}
	}
	return sum
}

// hold tells whether all of some atoms are true by values.
func hold(l list, values []api.Rat) bool {
	return !slices.ContainsFunc(l, func(a api.Atom) bool { return !atom.Holds(a, values) })
}

// with are values with another one of a variable.
func with(values []api.Rat, v int, value api.Rat) []api.Rat {
	out := slices.Clone(values)
	for len(out) <= v {
		out = append(out, rat.Int(0))
	}
	out[v] = value
	return out
}

// someVars are variables in some row, with such as stand there twice, that no atom has, and that are none.
func someVars(r *rand.Rand) []int {
	return each(r.Intn(6), func(int) int { return pick(r, by(0, 1, 2, 3, 0, 1, 2, 3, 0, 1, 2, 3, 4, -1)) })
}

// P23.1, P23.2: atoms of a fixed seed, by all calls, against the model.
func TestP23_2Model(t *testing.T) {
	r := rand.New(rand.NewSource(232))
	falses, solved := 0, 0
	for range 12000 {
		l := madeAtoms(r)
		if r.Intn(3) == 0 {
			l = planted(r, madeValues(r))
		}
		for range r.Intn(3) * r.Intn(2) {
			l = slices.Insert(l, r.Intn(len(l)+1), lengthened(r))
		}
		alike(t, put(l, widest()), modelAll(l, nil), "Put of ", brief{l})
		if solveByModel(t, l, r.Intn(6)-1).solved {
			solved++
		}
		if allByModel(t, l, someVars(r)).truth == atom.No {
			falses++
		}
	}
	if falses < 1500 || solved < 2500 {
		t.Error("only", falses, "false,", solved, "solved")
	}
}

// P23.2: all short lists of a few atoms, by each variable and by both rows of two, against the model.
func TestP23_2ModelShort(t *testing.T) {
	l := append(few(), eq(-1, 0, 3, 1, 2), lt(-1, 0, 1, 1, 1), le(1, 1, -1, 3, 1), le(1))
	for _, a := range l {
		for _, b := range l {
			for v := range 4 {
				solveByModel(t, of(a, b), v)
			}
			for _, c := range l[5:] {
				allByModel(t, of(a, b, c), by(0, 1))
				allByModel(t, of(a, b, c), by(1, 0, 2))
			}
		}
	}
}

// P23.3: what comes of Solve is true by values just if there is a value by which, with these, all atoms are: that is the equation's Value. Where it is not solved, it is true just if they are.
func TestP23_3Meaning(t *testing.T) {
	r := rand.New(rand.NewSource(233))
	count := map[bool]int{}
	for range 6000 {
		l, plant := madeAtoms(r), madeValues(r)
		if r.Intn(2) == 0 {
			l = planted(r, plant)
		}
		v := r.Intn(4)
		got := solve(l, v, widest())
		for k := range 6 {
			values := madeValues(r)
			if k == 0 {
				values = plant
			}
			if !got.solved {
				equal(t, hold(got.out, values) && got.truth != atom.No, hold(l, values), "not solved: by ", values, ", what ", brief{l}, " says")
				continue
			}
			holds := hold(got.out, values) && got.truth != atom.No
			count[holds]++
			// What comes of it does not ask for the variable.
			equal(t, hold(got.out, with(values, v, quotient(7, 5))), hold(got.out, values), "by ", v, ": what comes of ", brief{l})
			equation := firstWith(t, l, v)
			value, is := gauss.Value(equation, v, values)
			equal(t, is, true, "the Value of ", equation)
			equal(t, hold(l, with(values, v, value)), holds, "by ", values, ", and the Value: ", brief{l})
			for _, other := range []api.Rat{rat.Int(0), rat.Int(1), rat.Add(value, quotient(1, 3)), rat.Neg(value), quotient(r.Intn(19)-9, 1+r.Intn(3))} {
				if rat.Cmp(other, value) != 0 {
					equal(t, hold(l, with(values, v, other)), false, "by ", values, ", and another number, ", other, ": ", brief{l})
				}
			}
		}
	}
	if count[true] < 2000 || count[false] < 2000 {
		t.Error("only", count)
	}
}

// firstWith is the first equation, as atoms stand in their conjunction, that has a variable.
func firstWith(t *testing.T, l list, v int) api.Atom {
	t.Helper()
	l = put(l, widest()).out
	at, _, is := chosen(facts(l), by(v))
	if !is {
		t.Fatal("no equation has", v, l)
	}
	return l[at]
}

// P23.3 of All: it is Solve, time and again; so what comes of it is true by values just if all atoms are, by these and the Values, from the last one that went on.
func TestP23_3All(t *testing.T) {
	r := rand.New(rand.NewSource(234))
	count := map[bool]int{}
	for range 4000 {
		l, plant := madeAtoms(r), madeValues(r)
		if r.Intn(3) > 0 {
			l = planted(r, plant)
		}
		vars := someVars(r)
		got := all(l, vars, widest())
		var gone []int
		var equations list
		one := put(l, widest())
		for {
			at, v, is := chosen(facts(one.out), vars)
			if !is {
				break
			}
			gone, equations = append(gone, v), append(equations, one.out[at])
			one = solve(one.out, v, widest())
		}
		tells(t, got.out, one.out, "All, and Solve time and again, by ", vars, ", of ", brief{l})
		equal(t, got.truth, one.truth, "All, and Solve time and again: truth, by ", vars, ", of ", brief{l})
		for k := range 4 {
			values := madeValues(r)
			if k == 0 {
				values = plant
			}
			holds := got.truth != atom.No && hold(got.out, values)
			for k, v := range slices.Backward(gone) {
				value, is := gauss.Value(equations[k], v, values)
				equal(t, is, true, "the Value of ", equations[k])
				values = with(values, v, value)
			}
			equal(t, hold(l, values), holds, "by values, and the Values: ", brief{l}, " by ", vars)
			count[holds]++
		}
		// What went is gone; no equation has one that is left; who is left is one that was handed in, once, in this row.
		for k, v := range gone {
			equal(t, slices.Contains(got.left, v) || slices.Contains(gone[:k], v), false, "gone, and left: ", v)
			equal(t, slices.ContainsFunc(got.out, func(a api.Atom) bool { return has(a, v) }), false, v, " is gone: ", brief{l})
		}
		for _, v := range got.left {
			equal(t, slices.ContainsFunc(got.out, func(a api.Atom) bool { return a.Kind == api.Eq && has(a, v) }), false, v, " is left: ", brief{l})
		}
	}
	if count[true] < 2000 || count[false] < 2000 {
		t.Error("only", count)
	}
}

// has tells whether an atom has a variable.
func has(a api.Atom, v int) bool {
	return slices.ContainsFunc(a.Term.Parts, func(p api.Part) bool { return p.Var == v })
}

// P23.4, P23.5: what comes of Solve, solved, has not that variable; what is told is a conjunction, and Put of a conjunction is that one, for a step each.
func TestP23_4GoneP23_5Conjunction(t *testing.T) {
	r := rand.New(rand.NewSource(235))
	for range 6000 {
		l := madeAtoms(r)
		for range r.Intn(2) {
			l = append(l, lengthened(r))
		}
		v := r.Intn(4)
		solved := solve(l, v, widest())
		if solved.solved {
			equal(t, slices.ContainsFunc(solved.out, func(a api.Atom) bool { return has(a, v) }), false, v, " is gone: ", brief{l})
		}
		for _, told := range []result{put(l, widest()), solved, all(l, someVars(r), widest())} {
			equal(t, dnf.Conjunction(api.Real, told.out), true, "it is a conjunction: ", brief{told.out})
			again := put(told.out, widest())
			tells(t, again.out, told.out, "Put of a conjunction")
			equal(t, again.truth, atom.Open, "Put of a conjunction: truth")
			equal(t, again.spent.Steps == len(told.out) && again.spent.Rows == len(told.out), true, "Put of a conjunction: what is spent")
			backward := slices.Clone(told.out)
			slices.Reverse(backward)
			tells(t, put(backward, widest()).out, told.out, "Put of a conjunction, backward")
		}
		// Where nothing went, it stands as it stood.
		again := solve(solved.out, v, widest())
		equal(t, again.solved && solved.solved, false, "it goes once")
		if solved.solved {
			tells(t, again.out, solved.out, "Solve again, of what is solved")
		}
	}
}

// P23.2: Value of equations of a fixed seed, also with long numbers, against math/big.
func TestP23_2ValueModel(t *testing.T) {
	r := rand.New(rand.NewSource(236))
	some := func() api.Int {
		if r.Intn(2) == 0 {
			return whole.Of(r.Intn(31) - 15)
		}
		return api.Int{Neg: r.Intn(2) == 0, Limbs: each(1+r.Intn(5), func(int) uint32 { return r.Uint32() | 1 })}
	}
	for range 6000 {
		a := api.Atom{Kind: api.Eq, Term: api.Term{Add: some()}}
		for v := range 4 {
			if n := some(); whole.Sign(n) != 0 && r.Intn(3) > 0 {
				a.Term.Parts = append(a.Term.Parts, api.Part{Var: v, Coef: n})
			}
		}
		values := each(r.Intn(6), func(int) api.Rat {
			q, e := rat.Make(some(), some())
			if e != api.OK {
				return rat.Int(3)
			}
			return q
		})
		for v := range 4 {
			got, is := gauss.Value(a, v, values)
			equal(t, is, has(a, v), "Value by ", v, " of ", brief{a})
			if !is {
				tells(t, got, api.Rat{}, "Value, beside no")
				continue
			}
			equal(t, rat.May(got), true, "in lowest terms: Value by ", v, " of ", brief{a})
			// What the others come to, by the Coef, turned.
			want := exact(a.Term, with(values, v, rat.Int(0)))
			want.Quo(want, new(big.Rat).SetInt(value(coefOf(a, v))))
			want.Neg(want)
			tells(t, got, api.Rat{Num: number(want.Num()), Den: number(want.Denom())}, "Value by ", v, " of ", brief{a})
			equal(t, atom.Holds(a, with(values, v, got)), true, "it is true by its Value")
			equal(t, atom.Holds(a, with(values, v, rat.Add(got, quotient(1, 7)))), false, "it is true by another number")
		}
	}
}

// coefOf is a variable's Coef in an atom that has it.
func coefOf(a api.Atom, v int) api.Int {
	at := slices.IndexFunc(a.Term.Parts, func(p api.Part) bool { return p.Var == v })
	return a.Term.Parts[at].Coef
}

// parts are a budget's, but for Depth, as they are called.
func parts() map[string]func(b *api.Budget) *int {
	return map[string]func(b *api.Budget) *int{
		"steps": func(b *api.Budget) *int { return &b.Steps },
		"rows":  func(b *api.Budget) *int { return &b.Rows },
		"limbs": func(b *api.Budget) *int { return &b.Limbs },
	}
}

// P23.6, S7, P7: with what was spent, and with more, the same is told; with one less in any part it is refused; with any budget it is the same, or refused.
func TestP23_6Budget(t *testing.T) {
	r := rand.New(rand.NewSource(237))
	for range 3000 {
		l := madeAtoms(r)
		if r.Intn(3) == 0 {
			l = planted(r, madeValues(r))
		}
		for range r.Intn(3) {
			l = slices.Insert(l, r.Intn(len(l)+1), lengthened(r))
		}
		v, vars := r.Intn(4), someVars(r)
		goByBudgets(t, r, func(m *budget.Meter) result { return put(l, m) }, brief{l})
		goByBudgets(t, r, func(m *budget.Meter) result { return solve(l, v, m) }, brief{l})
		goByBudgets(t, r, func(m *budget.Meter) result { return all(l, vars, m) }, brief{l})
	}
}

// goByBudgets complains unless a call goes by P23.6.
func goByBudgets(t *testing.T, r *rand.Rand, call func(m *budget.Meter) result, what any) {
	t.Helper()
	want := call(widest())
	spent := want.spent
	just := func(b api.Budget, how string) {
		t.Helper()
		alike(t, call(metered(b)), want, how, ", of ", what)
	}
	refused := func(b api.Budget, how string) *budget.Meter {
		t.Helper()
		m := metered(b)
		got := call(m)
		alike(t, got, result{e: api.ErrBudget, spent: got.spent}, how, ", of ", what)
		return m
	}
	just(spent, "with what was spent")
	just(api.Budget{Steps: spent.Steps + r.Intn(3), Rows: spent.Rows + r.Intn(3), Limbs: spent.Limbs + r.Intn(3), Depth: r.Intn(3)}, "with more")
	for name, part := range parts() {
		b := spent
		*part(&b)++
		just(b, "one more in a part")
		b = spent
		if *part(&b) == 0 {
			continue
		}
		*part(&b)--
		m := refused(b, "one less of "+name)
		told, most, is := budget.Part(m.Why())
		equal(t, is && told == name && most == *part(&b), true, "why, with one less of ", name, ", of ", what)
		refused(m.Spent(), "with what was spent ahead of an error")
	}
	b := api.Budget{Steps: r.Intn(spent.Steps + 2), Rows: r.Intn(spent.Rows + 2), Limbs: r.Intn(spent.Limbs + 2)}
	if b.Steps >= spent.Steps && b.Rows >= spent.Rows && b.Limbs >= spent.Limbs {
		just(b, "with enough")
	} else {
		refused(b, "with too little")
	}
}

// P23.1, P23.2, P23.6: what the meter is told, where it is known by hand: at the beginning, and behind each variable that goes.
func TestP23_6Parts(t *testing.T) {
	wide := of1(api.Le, 0, whole.Of(1), power(3))
	// Its numbers are shorter when it is canonical: just those are looked at.
	shorter := of1(api.Eq, 0, power(2), power(2))
	yes, no, p, q := le(0), le(1), x(0), x(1)
	spent := func(steps, rows, limbs int) api.Budget { return api.Budget{Steps: steps, Rows: rows, Limbs: limbs} }
	for k, c := range []struct {
		l    list
		vars []int
		want api.Budget
	}{
		{nil, nil, spent(0, 0, 0)}, {of(yes), by(0), spent(0, 0, 0)}, {of(no), by(0), spent(0, 0, 0)}, {of(yes, no, yes), nil, spent(0, 0, 0)},
		{of(p), nil, spent(1, 1, 1)}, {of(p, q), by(0), spent(2, 2, 1)}, {of(p, p, q, p), nil, spent(4, 2, 1)}, {of(twice(0), p, yes, q, yes), nil, spent(3, 2, 1)},
		{of(no, p), nil, spent(1, 0, 1)}, {of(p, q, no, p), by(0), spent(3, 0, 1)}, {of(no, wide, no), nil, spent(1, 0, 3)}, {of(wide, wide), nil, spent(2, 1, 3)}, {of(shorter), nil, spent(1, 1, 1)},
		// The equation goes; what is left is paid anew, also what has not the variable.
		{of(zero(0)), by(0), spent(1, 1, 1)}, {of(zero(0), q), by(0), spent(3, 2, 1)}, {of(zero(0), q, x(2), le(3, 2, 1)), by(0), spent(7, 4, 1)}, {of(zero(0), q), by(1), spent(2, 2, 1)},
		// What comes to be true is not paid; what comes to be the same is.
		{of(zero(0), p, lt(-1, 0, 5)), by(0), spent(3, 3, 1)}, {of(zero(0), p, q), by(0), spent(4, 3, 1)}, {of(zero(0), q, le(0, 0, 1, 1, 1)), by(0), spent(5, 3, 1)}, {of(zero(0), q, le(0, 0, 1, 1, 1), le(0, 0, 2, 1, 1)), by(0), spent(7, 4, 1)},
		// What is false has no rows, but what stands beside it is paid.
		{of(zero(0), lt(0, 0, 1), q, x(2)), by(0), spent(6, 4, 1)}, {of(zero(0), lt(0, 0, 1)), by(0), spent(2, 2, 1)},
		// One variable goes behind another one.
		{of(eq(0, 0, 1, 1, -1), eq(-4, 0, 1, 1, 1), lt(0, 2, 1)), by(0, 1), spent(3+2+1, 3, 1)}, {of(zero(0), zero(1), zero(2), q, x(3)), by(2, 1, 5, 0), spent(5+4+2+1, 5, 1)}, {of(zero(0), zero(1), zero(2), lt(0, 1, 1), x(3)), by(2, 1, 0), spent(5+4+2, 5, 1)},
		// Long numbers behind one that goes: 2^32 x and y is 0, x and 2^32 is 0, or less.
		{of(api.Atom{Kind: api.Eq, Term: api.Term{Parts: []api.Part{{Var: 0, Coef: power(2)}, {Var: 1, Coef: whole.Of(1)}}}}, of1(api.Le, 0, whole.Of(1), power(2))), by(0), spent(3, 2, 3)},
		{of(api.Atom{Kind: api.Eq, Term: api.Term{Parts: []api.Part{{Var: 0, Coef: power(2)}, {Var: 1, Coef: power(2)}}}}, of1(api.Le, 0, whole.Of(1), power(2))), by(0), spent(3, 2, 2)},
	} {
		got := allByModel(t, c.l, c.vars)
		equal(t, got.spent, c.want, "what was spent, case ", k)
	}
}

// P23.6: what one call spends is gone for the next one: steps, but not rows; and which part is used up first.
func TestP23_6Why(t *testing.T) {
	l := of(zero(0), x(1), of1(api.Lt, 2, whole.Of(1), power(3)))
	m := metered(api.Budget{Steps: 9, Rows: 3, Limbs: 3})
	for k, want := range []api.Errno{api.OK, api.ErrBudget, api.ErrBudget} {
		equal(t, solve(l, 0, m).e, want, "solved again, ", k)
	}
	equal(t, m.Spent(), api.Budget{Steps: 9, Rows: 3, Limbs: 3}, "what all of them spent")
	equal(t, budget.Text(m.Why()), "no steps left of 9", "why")
	for k, c := range []struct {
		most, spent api.Budget
		why         string
	}{
		{api.Budget{Steps: 5, Rows: 2, Limbs: 3}, api.Budget{Steps: 3, Limbs: 3}, "no rows left of 2"},
		{api.Budget{Steps: 2, Rows: 2, Limbs: 3}, api.Budget{Steps: 2, Limbs: 1}, "no steps left of 2"},
		{api.Budget{Steps: 2, Rows: 2, Limbs: 2}, api.Budget{Steps: 2, Limbs: 1}, "no steps left of 2"},
		{api.Budget{Steps: 3, Rows: 2, Limbs: 2}, api.Budget{Steps: 2, Limbs: 1}, "no limbs left of 2"},
		{api.Budget{Steps: 3, Rows: 3, Limbs: 3}, api.Budget{Steps: 3, Rows: 3, Limbs: 3}, "no steps left of 3"},
		{api.Budget{Steps: 4, Rows: 3, Limbs: 3}, api.Budget{Steps: 4, Rows: 3, Limbs: 3}, "no steps left of 4"},
	} {
		m := metered(c.most)
		got := solve(l, 0, m)
		alike(t, got, result{e: api.ErrBudget, spent: c.spent}, "case ", k)
		equal(t, budget.Text(m.Why()), c.why, "why, case ", k)
	}
	// Behind the first variable that goes there may be more limbs than ahead of it.
	m = metered(api.Budget{Steps: 9, Rows: 9, Limbs: 2})
	longer := of(api.Atom{Kind: api.Eq, Term: api.Term{Parts: []api.Part{{Var: 0, Coef: power(2)}, {Var: 1, Coef: whole.Of(1)}}}}, of1(api.Le, 0, whole.Of(1), power(2)))
	equal(t, all(longer, by(0, 1), m).e, api.ErrBudget, "a limb too many")
	equal(t, budget.Text(m.Why()), "no limbs left of 2", "why")
	equal(t, m.Spent(), api.Budget{Steps: 2, Rows: 2, Limbs: 2}, "spent ahead of a limb too many")
}
