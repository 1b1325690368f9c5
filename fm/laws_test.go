package fm_test

import (
	"math/big"
	"math/rand"
	"slices"
	"testing"

	"alidade/api"
	"alidade/atom"
	"alidade/budget"
	"alidade/fm"
	"alidade/rat"
	"alidade/rows"
	"alidade/whole"
)

// few are atoms of four variables, canonical or not; not many, so that the same ones meet often.
func few() []api.Atom {
	return []api.Atom{le(0, 0, 1), le(0, 0, -1), lt(0, 0, 6), lt(0, 0, -2), le(0, 1, 3), lt(2, 0, -4, 2, 6), lt(1, 0, -2, 2, 3), le(4, 0, 2, 1, 2), le(0, 0, 1, 1, 1), le(0, 0, -1, 1, 1), lt(0, 0, 1, 1, -1), le(3, 0, 1, 2, 1), le(-3, 0, -1, 2, 1), lt(-1, 0, 3, 1, 2, 2, -1), eq(-2, 1, 2, 2, -4), eq(1, 1, -1, 2, 2)}
}

// settled are atoms that are true, or false.
func settled() []api.Atom { return []api.Atom{le(0), lt(-2), eq(0), le(1), lt(0), eq(-3)} }

// sparse is a term of some of four variables, with short Coefs.
func sparse(r *rand.Rand) api.Term {
	t := linear(r.Intn(9) - 4)
	for v := range 4 {
		if n := r.Intn(9) - 4; n != 0 && r.Intn(5) < 2 {
			t.Parts = append(t.Parts, api.Part{Var: v, Coef: whole.Of(n)})
		}
	}
	return t
}

// madeAtom is one of a few atoms, or of any; few of them are settled.
func madeAtom(r *rand.Rand) api.Atom {
	switch n := r.Intn(100); {
	case n < 3:
		return pick(r, settled()[:3])
	case n < 4:
		return pick(r, settled())
	case n < 40:
		return pick(r, few())
	case n < 45:
		return api.Atom{Kind: api.Eq, Term: sparse(r)}
	}
	return api.Atom{Kind: uint8(r.Intn(2)), Term: sparse(r)}
}

// lengthened is an atom of long numbers.
func lengthened(r *rand.Rand) api.Atom {
	number := func() api.Int {
		return api.Int{Neg: r.Intn(2) == 0, Limbs: slices.Repeat([]uint32{r.Uint32() | 1}, 1+r.Intn(4))}
	}
	return api.Atom{Kind: uint8(r.Intn(2)), Term: api.Term{Parts: []api.Part{{Var: 0, Coef: number()}, {Var: 3, Coef: number()}}, Add: number()}}
}

// madeSet is a set of one number, or of some, in one word, or in more.
func madeSet(r *rand.Rand) rows.Set {
	return rows.From(append(each(r.Intn(3)*r.Intn(2), func(int) int { return pick(r, by(1, 2, 63, 64, 200)) }), r.Intn(3)))
}

// madeRows are some rows.
func madeRows(r *rand.Rand) list {
	l := each(r.Intn(10), func(int) row { return row{Atom: madeAtom(r), From: madeSet(r)} })
	for range r.Intn(3) * r.Intn(2) {
		l = slices.Insert(l, r.Intn(len(l)+1), row{Atom: lengthened(r), From: madeSet(r)})
	}
	return l
}

// dropped are rows without equations that have a variable, these being bounds.
func dropped(l list, v int) list {
	l = slices.Clone(l)
	for k, r := range l {
		if r.Atom.Kind == api.Eq && factOf(r).coef(v).Sign() != 0 {
			l[k].Atom.Kind = api.Le
		}
	}
	return l
}

// madeValues are values for four variables, and sometimes for fewer, or more.
func madeValues(r *rand.Rand) []api.Rat {
	return each(5-r.Intn(3), func(int) api.Rat { return in(r.Intn(13)-6, 1+r.Intn(3)) })
}

// planted are rows that are true by values, each of them scaled by some number.
func planted(r *rand.Rand, values []api.Rat) list {
	return each(1+r.Intn(8), func(int) row {
		t := sparse(r)
		sum := exact(t, values)
		den := int(sum.Denom().Int64())
		for k, p := range t.Parts {
			n, _ := whole.Small(p.Coef)
			t.Parts[k].Coef = whole.Of(n * den)
		}
		add, _ := whole.Small(t.Add)
		// Now it is 0.
		t.Add = whole.Of(add*den - int(sum.Num().Int64()))
		kind := uint8(r.Intn(2))
		if less := r.Intn(3); kind == api.Lt || less > 0 {
			t.Add = whole.Sub(t.Add, whole.Of(1+less*den))
		} else if r.Intn(4) == 0 {
			kind = api.Eq
		}
		return row{Atom: api.Atom{Kind: kind, Term: t}, From: madeSet(r)}
	})
}

// hold tells whether all of some rows are true by values.
func hold(l list, values []api.Rat) bool {
	return !slices.ContainsFunc(l, func(r row) bool { return !atom.Holds(r.Atom, values) })
}

// with are values with another one of a variable.
func with(values []api.Rat, v int, value api.Rat) []api.Rat {
	out := slices.Clone(values)
	for len(out) <= v {
		out = append(out, rat.Int(0))
	}
	out[v] = value
	return out
}

// P24.1: rows of a fixed seed, against the model.
func TestP24_1Model(t *testing.T) {
	r := rand.New(rand.NewSource(242))
	falses, made := 0, 0
	for range 15000 {
		l, v := madeRows(r), r.Intn(6)-1
		if r.Intn(3) == 0 {
			l = planted(r, madeValues(r))
		}
		got := dropByModel(t, dropped(l, v), v)
		if got.truth == atom.No {
			falses++
		}
		if len(got.out) > 4 {
			made++
		}
	}
	if falses < 1500 || made < 2500 {
		t.Error("only", falses, "false,", made, "with some rows")
	}
}

// P24.1: all short lists of a few rows, by each variable, against the model; each two of them together.
func TestP24_1ModelShort(t *testing.T) {
	l := append(few(), lt(-1, 0, 1, 1, 1), le(1, 1, -1, 3, 1), le(1), lt(-5))
	for _, a := range l {
		for _, b := range l {
			for v := range 4 {
				dropByModel(t, dropped(of(a, b), v), v)
				bothByModel(t, from(a, 0), from(b, 1), v)
			}
			for _, c := range l[5:] {
				dropByModel(t, of(a, b, c), 0)
			}
		}
	}
}

// bothByModel complains unless Both is what the model has.
func bothByModel(t *testing.T, up, low row, v int) {
	t.Helper()
	f, g := factOf(up), factOf(low)
	if f.kind == api.Eq || g.kind == api.Eq || f.coef(v).Sign() != 1 || g.coef(v).Sign() != -1 {
		notBoth(t, up, low, v)
		return
	}
	joins(t, up, low, v, rowOf(joined(f, g, v)))
}

// P24.1: Side and Both of rows of a fixed seed, against the model.
func TestP24_1BothModel(t *testing.T) {
	r := rand.New(rand.NewSource(243))
	for range 3000 {
		l := madeRows(r)
		v := r.Intn(5)
		for _, a := range l {
			equal(t, fm.Side(a, v), factOf(a).coef(v).Sign(), "Side by ", v, " of ", brief{a})
			for _, b := range l {
				bothByModel(t, a, b, v)
			}
		}
	}
}

// P24.2: rows of a fixed seed, against the model, and by values.
func TestP24_2Model(t *testing.T) {
	r := rand.New(rand.NewSource(244))
	count := map[bool]int{}
	for range 15000 {
		l, values, v := madeRows(r), madeValues(r), r.Intn(5)
		if r.Intn(2) == 0 {
			l = planted(r, with(values, v, in(r.Intn(13)-6, 1+r.Intn(3))))
		}
		got, is := fm.Between(l, v, values)
		want, wantIs := modelBetween(l, v, values)
		count[is]++
		equal(t, is, wantIs, "Between by ", v, " of ", brief{l}, " by ", brief{values})
		if !is {
			tells(t, got, api.Rat{}, "Between, beside no, by ", v, " of ", brief{l})
			continue
		}
		tells(t, got, quotient(want), "Between by ", v, " of ", brief{l}, " by ", brief{values})
		equal(t, rat.May(got) && hold(l, with(values, v, got)), true, "all rows are true by it: Between by ", v, " of ", brief{l})
		// What the variable's own value is changes nothing.
		tells(t, got, first(fm.Between(l, v, with(values, v, in(r.Intn(9), 2)))), "with a value for the variable")
	}
	if count[true] < 4000 || count[false] < 3000 {
		t.Error("only", count)
	}
}

// first is the first one of two.
func first[T, U any](x T, _ U) T { return x }

// ends are the numbers at which rows end a variable's room, and such as are between and beside them.
func ends(l list, v int, values []api.Rat) []api.Rat {
	out := at(-7, 0, 7)
	for _, r := range l {
		if coef := factOf(r).coef(v); coef.Sign() != 0 {
			x := exact(r.Atom.Term, with(values, v, api.Rat{}))
			out = append(out, quotient(x.Neg(x.Quo(x, new(big.Rat).SetInt(coef)))))
		}
	}
	for k, x := range out {
		out = append(out, rat.Add(x, in(1, 100)), rat.Sub(x, in(1, 3)), rat.Middle(x, out[0]), rat.Middle(x, out[k/2]))
	}
	return out
}

// P24.3: what comes of Drop is true by values just if there is a value of the variable by which all rows are true: Between tells it; where it tells none, all are true by no number.
func TestP24_3Meaning(t *testing.T) {
	r := rand.New(rand.NewSource(245))
	count := map[bool]int{}
	for range 8000 {
		l, values, v := madeRows(r), madeValues(r), r.Intn(5)
		if r.Intn(2) == 0 {
			l = planted(r, with(values, v, in(r.Intn(13)-6, 1+r.Intn(3))))
		}
		l = dropped(l, v)
		got := drop(l, v, widest())
		isTrue := got.truth == atom.Open && hold(got.out, values)
		x, is := fm.Between(l, v, values)
		count[is]++
		equal(t, isTrue, is, "Drop, and Between, by ", v, " of ", brief{l}, " by ", brief{values})
		if is {
			equal(t, hold(l, with(values, v, x)), true, "all rows are true by ", rat.Show(x), " for ", v, ": ", brief{l})
			continue
		}
		for _, x := range ends(l, v, values) {
			equal(t, hold(l, with(values, v, x)), false, "all rows are true by ", rat.Show(x), " for ", v, ": ", brief{l})
		}
	}
	if count[true] < 2000 || count[false] < 2000 {
		t.Error("only", count)
	}
}

// isMade tells whether a row is one of some rows that has a variable not, or what an upper one and a lower one come to: made canonical, with all that it comes from.
func isMade(o row, l list, v int) bool {
	is := func(r row, set rows.Set) bool {
		c, _, _ := atom.Canon(api.Real, r.Atom)
		return atom.Same(o.Atom, c) && o.From.Same(set)
	}
	for _, r := range l {
		if fm.Side(r, v) == 0 && is(r, r.From) {
			return true
		}
		for _, s := range l {
			if both, isBoth := fm.Both(r, s, v); isBoth && is(both, r.From.Or(s.From)) {
				return true
			}
		}
	}
	return false
}

// P24.4: what is told has not the variable, nor are two of it the same; each row is one that stays, or of two.
func TestP24_4Gone(t *testing.T) {
	r := rand.New(rand.NewSource(246))
	for range 4000 {
		v := r.Intn(5)
		l := dropped(madeRows(r), v)
		out := drop(l, v, widest()).out
		for k, o := range out {
			equal(t, rows.May(o) && fm.Side(o, v) == 0, true, "variable ", v, " is gone: ", brief{l})
			equal(t, isMade(o, l, v), true, "it is of one, or of two: ", brief{o}, " of ", brief{l}, " by ", v)
			equal(t, slices.ContainsFunc(out[:k], func(p row) bool { return rows.Same(o, p) }), false, "two are the same: ", brief{l})
		}
		again, truth, _ := rows.Put(out, widest())
		tells(t, again, out, "put together anew, of ", brief{l})
		equal(t, truth, atom.Open, "put together anew")
		alike(t, drop(out, v, widest()), result{out: out, spent: drop(out, v, widest()).spent}, "Drop, once more, of ", brief{l})
	}
}

// P24.5: a row that is made is strict just if one of both is; by values by which both are true it is true.
func TestP24_5Strict(t *testing.T) {
	r := rand.New(rand.NewSource(247))
	count := 0
	for range 6000 {
		v := r.Intn(4)
		values := madeValues(r)
		l := planted(r, values)
		if r.Intn(4) == 0 {
			l = append(l, madeRows(r)...)
		}
		for _, up := range l {
			for _, low := range l {
				both, is := fm.Both(up, low, v)
				if !is {
					continue
				}
				count++
				strict := up.Atom.Kind == api.Lt || low.Atom.Kind == api.Lt
				equal(t, both.Atom.Kind == api.Lt, strict, "strict: ", brief{up}, brief{low})
				equal(t, both.Atom.Kind == api.Le, !strict, "not strict: ", brief{up}, brief{low})
				equal(t, rows.May(both), true, "it may be: ", brief{up}, brief{low})
				if hold(list{up, low}, values) {
					equal(t, hold(list{both}, values), true, "both are true, and it is not: ", brief{up}, brief{low})
				}
			}
		}
	}
	if count < 4000 {
		t.Error("only", count)
	}
}

// parts are a budget's, but for Depth, as they are called.
func parts() map[string]func(b *api.Budget) *int {
	return map[string]func(b *api.Budget) *int{
		"steps": func(b *api.Budget) *int { return &b.Steps },
		"rows":  func(b *api.Budget) *int { return &b.Rows },
		"limbs": func(b *api.Budget) *int { return &b.Limbs },
	}
}

// P24.6, S7, P7: with what was spent, and with more, the same is told; with one less in any part it is refused; with any budget it is the same, or refused.
func TestP24_6Budget(t *testing.T) {
	r := rand.New(rand.NewSource(248))
	for range 4000 {
		l, v := madeRows(r), r.Intn(4)
		if r.Intn(3) == 0 {
			l = planted(r, madeValues(r))
		}
		l = dropped(l, v)
		goByBudgets(t, r, l, v)
	}
}

// goByBudgets complains unless Drop goes by P24.6.
func goByBudgets(t *testing.T, r *rand.Rand, l list, v int) {
	t.Helper()
	want := drop(l, v, widest())
	spent := want.spent
	just := func(b api.Budget, how string) {
		t.Helper()
		alike(t, drop(l, v, metered(b)), want, how, ", by ", v, ", of ", brief{l})
	}
	refused := func(b api.Budget, how string) *budget.Meter {
		t.Helper()
		m := metered(b)
		got := drop(l, v, m)
		alike(t, got, result{e: api.ErrBudget, spent: got.spent}, how, ", by ", v, ", of ", brief{l})
		return m
	}
	just(spent, "with what was spent")
	just(api.Budget{Steps: spent.Steps + r.Intn(3), Rows: spent.Rows + r.Intn(3), Limbs: spent.Limbs + r.Intn(3), Depth: r.Intn(3)}, "with more")
	for name, part := range parts() {
		b := spent
		*part(&b)++
		just(b, "one more in a part")
		b = spent
		if *part(&b) == 0 {
			continue
		}
		*part(&b)--
		m := refused(b, "one less of "+name)
		told, most, is := budget.Part(m.Why())
		equal(t, is && told == name && most == *part(&b), true, "why, with one less of ", name, ", by ", v, ", of ", brief{l})
		refused(m.Spent(), "with what was spent ahead of an error")
	}
	b := api.Budget{Steps: r.Intn(spent.Steps + 2), Rows: r.Intn(spent.Rows + 2), Limbs: r.Intn(spent.Limbs + 2)}
	if b.Steps >= spent.Steps && b.Rows >= spent.Rows && b.Limbs >= spent.Limbs {
		just(b, "with enough")
	} else {
		refused(b, "with too little")
	}
}

// P24.1, P24.6: what the meter is told, where it is known by hand: how many pairs there are, and what rows that are put together tell.
func TestP24_6Parts(t *testing.T) {
	up, low, stay := from(le(0, 0, 1, 1, 1), 0), from(le(0, 0, -1, 2, 1), 1), from(le(5, 3, 1), 2)
	wide := from(sum(api.Le, power(3), api.Int{}, whole.Of(1)), 3)
	// Its numbers are shorter when it is canonical: just those are looked at.
	shorter := from(sum(api.Le, power(4), api.Int{}, power(4)), 3)
	spent := func(steps, rows, limbs int) api.Budget { return api.Budget{Steps: steps, Rows: rows, Limbs: limbs} }
	for k, c := range []struct {
		l    list
		want api.Budget
	}{
		{nil, spent(0, 0, 0)}, {list{up}, spent(0, 0, 0)}, {list{low, low}, spent(0, 0, 0)}, {list{stay}, spent(1, 1, 1)}, {list{stay, stay}, spent(2, 1, 1)},
		{list{up, low}, spent(1, 1, 1)}, {list{up, low, stay}, spent(2, 2, 1)}, {list{up, low, low}, spent(2, 2, 1)}, {list{up, up, low, low, up}, spent(6, 6, 1)}, {list{up, up, low, low, stay}, spent(5, 4, 1)},
		{list{wide}, spent(1, 1, 3)}, {list{shorter}, spent(1, 1, 1)}, {list{up, stay, wide}, spent(2, 2, 3)},
		// What is true is not paid, nor is it a row; what is false has none.
		{list{from(le(-1), 0), from(le(0, 0, 1), 1), from(le(0, 0, -1), 2)}, spent(0, 1, 0)}, {list{from(lt(0), 0), up, low, stay}, spent(2, 1, 1)}, {list{from(lt(0, 0, 1), 0), from(le(0, 0, -1), 1), wide}, spent(1, 1, 3)},
		{list{from(lt(0), 0), wide, stay}, spent(2, 0, 3)}, {list{from(lt(0), 0)}, spent(0, 0, 0)},
		// Long numbers that are made, and such as only go on the way: 2^32 x and y, less x and 2^64; 2^96 x and y, less 2^96 x and z.
		{list{from(sum(api.Le, api.Int{}, power(2), whole.Of(1)), 0), from(sum(api.Lt, power(3), whole.Of(-1)), 1)}, spent(1, 1, 4)},
		{list{from(sum(api.Le, api.Int{}, power(4), whole.Of(1)), 0), from(sum(api.Lt, api.Int{}, whole.Neg(power(4)), api.Int{}, whole.Of(1)), 1)}, spent(1, 1, 1)},
	} {
		equal(t, dropByModel(t, c.l, 0).spent, c.want, "what was spent, case ", k)
	}
}

// P24.6: which part is used up first, and what was spent by then; what one call spends is gone for the next one: steps, but not rows.
func TestP24_6Why(t *testing.T) {
	wide := from(sum(api.Lt, power(3), api.Int{}, whole.Of(1)), 5)
	l := list{from(le(0, 0, 1, 1, 1), 0), from(le(0, 0, -1, 2, 1), 1), from(le(0, 0, -1, 3, 1), 2), from(le(0, 0, 1, 4, 1), 3), from(le(0, 7, 1), 4), wide}
	for k, c := range []struct {
		most, spent api.Budget
		why         string
	}{
		{api.Budget{Steps: 6, Rows: 3, Limbs: 3}, api.Budget{}, "no rows left of 3"},
		{api.Budget{}, api.Budget{}, "no rows left of 0"},
		{api.Budget{Rows: 4}, api.Budget{Rows: 4}, "no steps left of 0"},
		{api.Budget{Steps: 1, Rows: 4}, api.Budget{Rows: 4}, "no limbs left of 0"},
		{api.Budget{Steps: 2, Rows: 4, Limbs: 2}, api.Budget{Steps: 1, Rows: 4, Limbs: 1}, "no limbs left of 2"},
		{api.Budget{Steps: 1, Rows: 4, Limbs: 2}, api.Budget{Steps: 1, Rows: 4, Limbs: 1}, "no steps left of 1"},
		{api.Budget{Steps: 5, Rows: 4, Limbs: 3}, api.Budget{Steps: 5, Rows: 4, Limbs: 3}, "no steps left of 5"},
		{api.Budget{Steps: 6, Rows: 4, Limbs: 3}, api.Budget{Steps: 6, Rows: 4, Limbs: 3}, "no rows left of 4"},
		{api.Budget{Steps: 9, Rows: 5, Limbs: 9}, api.Budget{Steps: 6, Rows: 4, Limbs: 3}, "no rows left of 5"},
	} {
		m := metered(c.most)
		alike(t, drop(l, 0, m), result{e: api.ErrBudget, spent: c.spent}, "case ", k)
		equal(t, budget.Text(m.Why()), c.why, "why, case ", k)
	}
	m := metered(api.Budget{Steps: 17, Rows: 6, Limbs: 3})
	for k, want := range []api.Errno{api.OK, api.OK, api.ErrBudget, api.ErrBudget} {
		equal(t, drop(l, 0, m).e, want, "Drop again, ", k)
	}
	equal(t, m.Spent(), api.Budget{Steps: 17, Rows: 6, Limbs: 3}, "what all of them spent")
	equal(t, budget.Text(m.Why()), "no steps left of 17", "why")
}
