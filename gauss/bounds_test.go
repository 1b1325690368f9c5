package gauss_test

import (
	"fmt"
	"math"
	"math/rand"
	"runtime"
	"slices"
	"testing"

	"alidade/api"
	"alidade/atom"
	"alidade/budget"
	"alidade/gauss"
	"alidade/rat"
	"alidade/whole"
)

// sum is an atom of a kind, of variables from 0 on, each with its Coef (0: it is not there), and a number.
func sum(kind uint8, add api.Int, coefs ...api.Int) api.Atom {
	a := api.Atom{Kind: kind, Term: api.Term{Add: add}}
	for v, n := range coefs {
		if whole.Sign(n) != 0 {
			a.Term.Parts = append(a.Term.Parts, api.Part{Var: v, Coef: n})
		}
	}
	return a
}

// TestLongest: numbers as long as they may be; what would be longer by a limb, in whatever number, is refused, and the meter says why.
func TestLongest(t *testing.T) {
	zero, one := api.Int{}, whole.Of(1)
	half, rest := 30000, mostLong+1-30000 // a product of so many limbs has as many as there may be
	fits := func(l list, want ...api.Atom) {
		t.Helper()
		got := solve(l, 0, widest())
		equal(t, got.e == api.OK && got.solved && got.truth == atom.Open, true, "Solve: ", got.e)
		equal(t, slices.EqualFunc(got.out, want, atom.Same), true, "Solve, of long numbers")
		equal(t, solve(l, 0, metered(got.spent)).e, api.OK, "with what was spent")
	}
	refused := func(l list) {
		t.Helper()
		m := widest()
		equal(t, put(l, m).e, api.OK, "Put, of long numbers")
		first := m.Spent()
		m = widest()
		got := solve(l, 0, m)
		alike(t, got, result{e: api.ErrBudget, spent: first}, "Solve, of numbers that become too long")
		equal(t, budget.Text(m.Why()), "no limbs left of 65536", "why")
		got = all(l, by(1, 0), metered(withSteps(first.Steps)))
		equal(t, got.e, api.ErrBudget, "All, with no step for what becomes too long")
	}
	// n x is y, turned; x and r is 0, or less: n r less y.
	lead := sum(api.Eq, zero, power(half), one)
	fits(of(lead, sum(api.Le, power(rest), one)), sum(api.Le, power(mostLong), zero, whole.Of(-1)))
	refused(of(lead, sum(api.Le, power(rest+1), one)))
	refused(of(lead, sum(api.Le, whole.Neg(power(rest+1)), one)))
	fits(of(lead, sum(api.Lt, zero, one, zero, power(rest))), sum(api.Lt, zero, zero, whole.Of(-1), power(mostLong)))
	refused(of(lead, sum(api.Lt, zero, one, zero, power(rest+1))))
	refused(of(lead, sum(api.Lt, whole.Of(7), one, zero, whole.Of(3), whole.Neg(power(rest+1)))))
	// x and r y is 0, or less, and n x and 1, or n x and z.
	times := sum(api.Le, whole.Of(1), power(rest), zero, one)
	fits(of(sum(api.Eq, power(half), one), times), sum(api.Le, whole.Sub(one, power(mostLong)), zero, zero, one))
	refused(of(sum(api.Eq, power(half+1), one), times))
	refused(of(sum(api.Eq, one, one, power(half+1)), times))
	// A sum that is too long: of both Adds, of both Coefs.
	most := api.Int{Limbs: slices.Repeat([]uint32{math.MaxUint32}, mostLong)}
	fits(of(sum(api.Eq, whole.Sub(one, most), one), sum(api.Le, one, one, one)), sum(api.Le, most, zero, one))
	refused(of(sum(api.Eq, whole.Neg(most), one), sum(api.Le, one, one, one)))
	refused(of(sum(api.Eq, whole.Neg(most), one), sum(api.Le, most, one, one)))
	refused(of(sum(api.Eq, zero, one, whole.Neg(most)), sum(api.Lt, zero, one, most, one)))
	// What divides both Coefs goes ahead of the products; what has not the variable is not made longer.
	fits(of(lead, sum(api.Le, zero, power(half), zero, power(mostLong))), sum(api.Le, zero, zero, whole.Of(-1), power(mostLong)))
	fits(of(lead, sum(api.Le, one, zero, zero, most)), sum(api.Le, one, zero, zero, most))
	// Where all is long, and what is told is short.
	fits(of(sum(api.Eq, most, power(mostLong)), sum(api.Le, most, power(mostLong)), x(3)), x(3))
}

// TestLongestValue: Values of long numbers are told just so, up to where they would be too long; what is, is a quotient that may be.
func TestLongestValue(t *testing.T) {
	zero, one := api.Int{}, whole.Of(1)
	a := sum(api.Eq, zero, power(40000), one)
	values(t, a, 0, nil, rat.Int(0))
	values(t, a, 0, []api.Rat{{}, rat.Of(power(40000))}, rat.Int(-1))
	values(t, a, 0, []api.Rat{{}, rat.Of(power(65000))}, rat.Of(whole.Neg(power(25001))))
	values(t, a, 0, at(0, 5), api.Rat{Num: whole.Of(-5), Den: power(40000)})
	values(t, a, 0, []api.Rat{{}, {Num: one, Den: power(25537)}}, api.Rat{Num: whole.Of(-1), Den: power(mostLong)})
	values(t, a, 1, []api.Rat{rat.Of(power(25537))}, rat.Of(whole.Neg(power(mostLong))))
	for _, l := range [][]api.Rat{{{}, {Num: one, Den: power(25538)}}, {{}, {Num: one, Den: power(mostLong)}}, {rat.Of(power(25538))}} {
		for v := range 2 {
			got, is := gauss.Value(a, v, l)
			equal(t, is && rat.May(got), true, "Value, too long, or nearly so")
		}
	}
}

// TestMany: many atoms that are the same, many of which no two are. No two may be held against each other for each two there are.
func TestMany(t *testing.T) {
	const many = 200000
	for k, c := range []struct {
		l    list
		want int
	}{
		{each(many, func(k int) api.Atom { return le(0, 3, 2+2*(k%9)) }), 1},
		{each(many, func(k int) api.Atom { return le(k, 3, 1) }), many},
		{each(many, func(k int) api.Atom { return le(-k, 3, 1) }), many},
		{each(many, func(k int) api.Atom { return lt(k%1000, (k*7919)%many, 1) }), many},
		{each(many, func(k int) api.Atom { return lt(many-k/2, 0, 1) }), many / 2},
		{each(many, func(k int) api.Atom { return eq(k%1000, k%1000, 1) }), 1000},
		{each(many, func(k int) api.Atom { return le(-k) }), 0},
	} {
		got := put(c.l, widest())
		equal(t, got.e == api.OK && got.truth == atom.Open, true, "many, case ", k)
		equal(t, len(got.out), c.want, "how many stay of many, case ", k)
		equal(t, got.spent.Rows, c.want, "rows of many, case ", k)
		rises := true
		for n := 1; n < len(got.out); n++ {
			rises = rises && atom.Compare(got.out[n-1], got.out[n]) < 0
		}
		equal(t, rises, true, "many rise, case ", k)
		isNo := put(append(slices.Clone(c.l), eq(1)), widest())
		equal(t, isNo.truth == atom.No && len(isNo.out) == 0, true, "many, and one that is false, case ", k)
	}
	// One variable in all of them.
	l := each(many/4, func(k int) api.Atom { return le(k, 0, 1, 1+k%100, 1) })
	got := solve(append(l, eq(-5, 0, 2, 200, 1)), 0, widest())
	equal(t, len(got.out), many/4, "many that have the variable")
	equal(t, got.spent, api.Budget{Steps: many/2 + 1, Rows: many/4 + 1, Limbs: 1}, "what was spent for many")
	equal(t, atom.Same(got.out[0], le(5, 1, 2, 200, -1)), true, "the first one of many")
	most := each(mostRows, func(k int) api.Atom { return x(k % mostVars) })
	equal(t, put(most, widest()).spent.Rows, mostRows, "as many atoms as there may be")
	m := widest()
	equal(t, put(append(most, lt(0, 0, 1)), m).e, api.ErrBudget, "one more than there may be")
	equal(t, budget.Text(m.Why()), "no rows left of 1048576", "why")
}

// TestManyEquations: many of them, one behind the other, by variables in all rows.
func TestManyEquations(t *testing.T) {
	const many = 1200
	chain := each(many, func(k int) api.Atom { return eq(1, k, 1, k+1, -1) })
	chain = append(chain, le(0, 0, 1, many, 1))
	rising := each(many, func(k int) int { return k })
	falling := each(many, func(k int) int { return many - 1 - k })
	for k, vars := range [][]int{rising, falling, append(append(rising[many/2:], rising...), mostVars)} {
		got := all(chain, vars, widest())
		// The first variable is the last one less as many.
		tells(t, got.out, of(le(-many/2, many, 1)), "a chain, ", k)
		equal(t, len(got.left), k/2, "left of a chain, ", k)
		equal(t, got.spent, api.Budget{Steps: (many + 1) * (many + 2) / 2, Rows: many + 1, Limbs: 1}, "what was spent for a chain, ", k)
	}
	got := all(append(chain, eq(0, 0, 1, many, -1)), rising, widest())
	equal(t, got.truth == atom.No && len(got.out) == 0, true, "a chain whose ends do not meet")
	// Many variables, few of which are there, each of them twice.
	vars := each(2*mostVars, func(k int) int { return (k*7919 + 5) % mostVars })
	few := of(eq(1, 3, 1, 5, -2, lastVar, 1), eq(2, 4, 1, 9, 1), eq(0, 100, 1), x(100), lt(0, 9, 1, lastVar, 1))
	got = all(few, vars, widest())
	equal(t, len(got.left), mostVars-3, "many variables are left")
	alike(t, got, modelAllOf(few, vars), "many variables")
	// Many variables in one equation.
	wide := sum(api.Eq, whole.Of(1), each(20000, func(int) api.Int { return whole.Of(2) })...)
	got = all(append(each(50, x), wide), by(7, 100), widest())
	equal(t, len(got.out), 50, "a wide equation")
	equal(t, slices.ContainsFunc(got.out, func(a api.Atom) bool { return has(a, 7) }), false, "a wide equation's variable is gone")
}

// modelAllOf is the model by many variables, which goes by those that atoms have, in their row, and tells that all others are left.
func modelAllOf(l list, vars []int) result {
	var first, there []int
	seen := map[int]int{}
	for _, v := range vars {
		if seen[v]++; seen[v] > 1 {
			continue
		}
		first = append(first, v)
		if slices.ContainsFunc(l, func(a api.Atom) bool { return has(a, v) }) {
			there = append(there, v)
		}
	}
	r := modelAll(l, there)
	r.left = slices.DeleteFunc(first, func(v int) bool { return slices.Contains(there, v) && !slices.Contains(r.left, v) })
	return r
}

// TestManyDense: equations that have all variables, whose numbers grow, against the model.
func TestManyDense(t *testing.T) {
	r := rand.New(rand.NewSource(238))
	for _, many := range by(3, 8, 20, 30) {
		l := each(many, func(int) api.Atom {
			return sum(api.Eq, whole.Of(r.Intn(99)), each(many+2, func(int) api.Int { return whole.Of(r.Intn(19) - 9) })...)
		})
		l = append(l, x(0), lt(-1, 1, 3, many+1, -2), le(5, many, 2))
		vars := r.Perm(many)
		got := allByModel(t, l, vars)
		equal(t, len(got.out) == 3 && len(got.left) == 0, true, "dense equations, ", many)
		allByModel(t, l, vars[:many/2])
		allByModel(t, append(l, l[:many/2]...), append(r.Perm(many), -1, many+5))
	}
}

// S7: no more steps are done than the budget has. What is done is told by the memory that is taken up on the way.
func TestFewStepsDone(t *testing.T) {
	const many = 600
	l := each(many, func(k int) api.Atom {
		return le(k, slices.Concat(each(200, func(v int) []int { return []int{v, 2*(v%7+1) + k%2} })...)...)
	})
	taken := func(call func(m *budget.Meter) result, steps, enough int) int {
		m := metered(withSteps(steps))
		var ahead, behind runtime.MemStats
		runtime.ReadMemStats(&ahead)
		got := call(m)
		runtime.ReadMemStats(&behind)
		equal(t, got.e == api.OK, steps >= enough, "with ", steps, " steps")
		return int(behind.TotalAlloc - ahead.TotalAlloc)
	}
	first := func(m *budget.Meter) result { return put(l, m) }
	all := taken(first, many, many)
	for _, steps := range by(0, 1, 10, 100) {
		if some := taken(first, steps, many); some > all/many*(steps+2)*2 {
			t.Errorf("Put: with %d steps %d bytes are taken up, with enough of them %d", steps, some, all)
		}
	}
	// Behind the equation each atom is made anew.
	led := append(slices.Clone(l), eq(1, 0, 1, 300, 1))
	out := func(m *budget.Meter) result { return solve(led, 0, m) }
	none := taken(out, many+1, 2*many+1)
	all = taken(out, 2*many+1, 2*many+1) - none
	for _, steps := range by(1, 10, 100) {
		if some := taken(out, many+1+steps, 2*many+1) - none; some > all/many*(steps+2)*2 {
			t.Errorf("Solve: with %d steps more %d bytes more are taken up, with enough of them %d", steps, some, all)
		}
	}
}

// spareList is a list that has something behind its end, and a look at whether it is as it was.
func spareList[T any](l []T, behind T, looks *[]func() bool) []T {
	long := append(slices.Clone(l), behind, behind)
	kept := fmt.Sprint(long)
	*looks = append(*looks, func() bool { return fmt.Sprint(long) == kept })
	return long[:len(l)]
}

// spareInt, spareAtom are what they are handed, all lists being such.
func spareInt(n api.Int, looks *[]func() bool) api.Int {
	return api.Int{Neg: n.Neg, Limbs: spareList(n.Limbs, 9, looks)}
}
func spareAtom(a api.Atom, looks *[]func() bool) api.Atom {
	a.Mod, a.Term.Add = spareInt(a.Mod, looks), spareInt(a.Term.Add, looks)
	l := slices.Clone(a.Term.Parts)
	for k, p := range l {
		l[k].Coef = spareInt(p.Coef, looks)
	}
	a.Term.Parts = spareList(l, api.Part{Var: 9}, looks)
	return a
}

// alone tells whether lists share nothing: each place of them, to their room's end, holds what was written there, when all are written.
func alone[T any](l [][]T, write func(x *T, k int), holds func(x T, k int) bool) bool {
	count := 0
	for _, m := range l {
		m = m[:cap(m)]
		for k := range m {
			write(&m[k], count)
			count++
		}
	}
	count = 0
	for _, m := range l {
		m = m[:cap(m)]
		for k := range m {
			if !holds(m[k], count) {
				return false
			}
			count++
		}
	}
	return true
}

// apart tells whether no two lists of some atoms and numbers share memory. It writes all over it.
func apart(atoms list, ints ...api.Int) bool {
	var limbs [][]uint32
	var parts [][]api.Part
	for _, n := range ints {
		limbs = append(limbs, n.Limbs)
	}
	for _, a := range atoms {
		limbs = append(limbs, a.Term.Add.Limbs, a.Mod.Limbs)
		parts = append(parts, a.Term.Parts)
		for _, p := range a.Term.Parts {
			limbs = append(limbs, p.Coef.Limbs)
		}
	}
	is := alone(limbs, func(x *uint32, k int) { *x = uint32(k) }, func(x uint32, k int) bool { return x == uint32(k) })
	is = is && alone(parts, func(x *api.Part, k int) { x.Var = k }, func(x api.Part, k int) bool { return x.Var == k })
	clear(atoms[:cap(atoms)])
	return is
}

// R1: what is handed in stays, also behind its end, with an error and without; what is told shares no memory with it, nor within itself; it is told again.
func TestR1Stays(t *testing.T) {
	check := func(l list, vars []int) {
		t.Helper()
		var looks []func() bool
		l = spareList(each(len(l), func(k int) api.Atom { return spareAtom(l[k], &looks) }), x(9), &looks)
		vars = spareList(vars, 77, &looks)
		for _, b := range []api.Budget{budget.Widest(), withSteps(5), withRows(2)} {
			for k, call := range []func() result{
				func() result { return put(l, metered(b)) },
				func() result { return solve(l, 0, metered(b)) },
				func() result { return solve(l, 2, metered(b)) },
				func() result { return all(l, vars, metered(b)) },
			} {
				told := call()
				was := fmt.Sprint(told)
				equal(t, apart(told.out), true, "no memory is shared: call ", k, " of ", brief{l})
				clear(told.left[:cap(told.left)])
				equal(t, fmt.Sprint(call()), was, "call ", k, ", told again, of ", brief{l})
			}
		}
		for k, look := range looks {
			if !look() {
				t.Fatal("something that was handed in has changed:", k, brief{l})
			}
		}
	}
	r := rand.New(rand.NewSource(239))
	for range 1500 {
		l := madeAtoms(r)
		if r.Intn(2) == 0 {
			l = append(l, lengthened(r), lengthened(r))
		}
		if r.Intn(8) == 0 {
			l = append(l, pick(r, wrongAtoms()))
		}
		check(l, someVars(r))
	}
	// Canonical atoms, and one atom, and its numbers, in many places.
	p, n := eq(7, 0, 2, 1, 1), long(3)
	check(of(p, p, le(1, 2, 1, 3, 2), x(1), sum(api.Le, n, n, n), sum(api.Lt, n, n, api.Int{}, n), sum(api.Eq, n, n, api.Int{}, n, n), p), by(0, 1, 2, 0))
	check(put(of(zero(0), eq(1, 1, 2, 3, 5), le(3, 0, 1, 2, 4), lt(-1, 2, 1)), widest()).out, by(5, 5, 1))
	check(of(x(3), lt(2, 3, 1)), nil)
}

// R1 of Value.
func TestR1StaysValue(t *testing.T) {
	r := rand.New(rand.NewSource(240))
	for k := range 1500 {
		var looks []func() bool
		a := lengthened(r)
		if k%2 == 0 {
			a = api.Atom{Kind: api.Eq, Term: sparse(r)}
		}
		if k%3 > 0 {
			a.Kind = api.Eq
		}
		a = spareAtom(a, &looks)
		l := madeValues(r)
		if k%4 == 0 {
			l = append(l, api.Rat{}, api.Rat{Num: whole.Of(3), Den: whole.Of(6)})
		}
		l = spareList(each(len(l), func(k int) api.Rat {
			return api.Rat{Num: spareInt(l[k].Num, &looks), Den: spareInt(l[k].Den, &looks)}
		}), rat.Int(9), &looks)
		for v := range 4 {
			got, is := gauss.Value(a, v, l)
			was := fmt.Sprint(got, is)
			equal(t, apart(nil, got.Num, got.Den), true, "no memory is shared: Value of ", brief{a})
			got, is = gauss.Value(a, v, l)
			equal(t, fmt.Sprint(got, is), was, "Value, told again, of ", brief{a})
		}
		for k, look := range looks {
			if !look() {
				t.Fatal("something that was handed in has changed:", k, brief{a})
			}
		}
	}
}

// R1: whatever is in atoms, in variables and values: each call ends, and tells what it tells of what may be, or an error alone.
func TestR1Wild(t *testing.T) {
	r := rand.New(rand.NewSource(241))
	wild := slices.Concat(few(), few(), few(), settled(), divs()[:2], wrongAtoms()[:3], wrongEquations()[:3], of(api.Atom{}))
	count := map[api.Errno]int{}
	for range 20000 {
		l := each(r.Intn(6), func(int) api.Atom { return pick(r, wild) })
		b := api.Budget{Steps: r.Intn(3) * r.Intn(12), Rows: r.Intn(9), Limbs: r.Intn(3)}
		vars := append(someVars(r), pick(r, by(math.MinInt, math.MaxInt, -5, mostVars)))
		want := api.OK
		switch {
		case slices.ContainsFunc(l, func(a api.Atom) bool { return !atom.May(a) }):
			want = api.ErrForm
		case slices.ContainsFunc(l, func(a api.Atom) bool { return a.Kind == api.Div }):
			want = api.ErrSort
		}
		for _, got := range []result{put(l, metered(b)), solve(l, pick(r, vars), metered(b)), all(l, vars, metered(b))} {
			count[got.e]++
			switch {
			case want != api.OK:
				alike(t, got, result{e: want}, "wild: ", brief{l})
			case got.e != api.OK:
				alike(t, got, result{e: api.ErrBudget, spent: got.spent}, "wild: ", brief{l})
			case got.truth == atom.No:
				equal(t, len(got.out), 0, "wild: atoms beside what is false, of ", brief{l})
			default:
				becomes(t, got.out, got.out...)
			}
		}
		for _, a := range l {
			v := pick(r, vars)
			got, is := gauss.Value(a, v, each(r.Intn(4), func(int) api.Rat {
				return api.Rat{Num: whole.Of(r.Intn(9) - 4), Den: whole.Of(r.Intn(5) - 1)}
			}))
			equal(t, is, atom.May(a) && a.Kind == api.Eq && has(a, v), "wild: Value of ", brief{a})
			equal(t, rat.May(got), is, "wild: a Value of ", brief{a})
		}
	}
	for _, e := range []api.Errno{api.OK, api.ErrForm, api.ErrSort, api.ErrBudget} {
		if count[e] < 3000 {
			t.Error("of", e, "only", count[e])
		}
	}
	refuse(t, api.ErrBudget, of(x(0)), func() *budget.Meter { return &budget.Meter{} }, "a meter that New did not make has nothing")
}
