package gauss_test

import (
	"fmt"
	"math"
	"math/rand"
	"slices"
	"testing"

	"alidade/api"
	"alidade/atom"
	"alidade/budget"
	"alidade/gauss"
	"alidade/rat"
	"alidade/whole"
)

const (
	mostVars = 1 << 20
	mostRows = 1 << 20
	mostLong = 1 << 16
	lastVar  = mostVars - 1
)

// list is written often.
type list = []api.Atom

// linear is the term of a number, and of variables, each with its Coef behind it; they have to rise.
func linear(add int, l ...int) api.Term {
	t := api.Term{Add: whole.Of(add)}
	for ; len(l) > 0; l = l[2:] {
		t.Parts = append(t.Parts, api.Part{Var: l[0], Coef: whole.Of(l[1])})
	}
	return t
}

// le, lt, eq, div are atoms of linear terms.
func le(add int, l ...int) api.Atom { return api.Atom{Kind: api.Le, Term: linear(add, l...)} }
func lt(add int, l ...int) api.Atom { return api.Atom{Kind: api.Lt, Term: linear(add, l...)} }
func eq(add int, l ...int) api.Atom { return api.Atom{Kind: api.Eq, Term: linear(add, l...)} }
func div(mod, add int, l ...int) api.Atom {
	return api.Atom{Kind: api.Div, Term: linear(add, l...), Mod: whole.Of(mod)}
}

// x says of a variable that it is 0, or less; twice says so of it twice; zero that it is 0.
func x(v int) api.Atom     { return le(0, v, 1) }
func twice(v int) api.Atom { return le(0, v, 2) }
func zero(v int) api.Atom  { return eq(0, v, 1) }

// of is a list; by are variables; at are whole numbers, as values.
func of(l ...api.Atom) list { return l }
func by(l ...int) []int     { return l }
func at(l ...int) []api.Rat { return each(len(l), func(k int) api.Rat { return rat.Int(l[k]) }) }

// quotient is that of two numbers.
func quotient(num, den int) api.Rat {
	q, e := rat.Make(whole.Of(num), whole.Of(den))
	if e != api.OK {
		panic("no quotient")
	}
	return q
}

// each is what a call makes of so many numbers, from 0 on.
func each[T any](many int, call func(k int) T) []T {
	var l []T
	for k := range many {
		l = append(l, call(k))
	}
	return l
}

// long is a whole number of so many limbs, all of them 1.
func long(limbs int) api.Int { return api.Int{Limbs: slices.Repeat([]uint32{1}, limbs)} }

// power is the whole number whose last limb of so many is 1, all others being 0.
func power(limbs int) api.Int {
	n := make([]uint32, limbs)
	n[limbs-1] = 1
	return api.Int{Limbs: n}
}

// of1 is the atom of a kind that says something of one variable, with a Coef, and a number.
func of1(kind uint8, v int, coef, add api.Int) api.Atom {
	return api.Atom{Kind: kind, Term: api.Term{Parts: []api.Part{{Var: v, Coef: coef}}, Add: add}}
}

// brief is something whose text is made only when it is told: how it begins and ends.
type brief struct{ of any }

func (b brief) String() string {
	s := fmt.Sprint(b.of)
	if len(s) > 400 {
		s = s[:200] + " .. " + s[len(s)-200:]
	}
	return s
}

// equal complains unless something is what is wanted.
func equal[T comparable](t *testing.T, got, want T, what ...any) {
	t.Helper()
	if got != want {
		t.Errorf("%s: got %v, want %v", fmt.Sprint(what...), got, want)
	}
}

// tells complains unless something is what is wanted, just so; none and nothing are the same.
func tells[T list | []int | api.Rat](t *testing.T, got, want T, what ...any) {
	t.Helper()
	if fmt.Sprint(got) != fmt.Sprint(want) {
		t.Errorf("%s: got %s, want %s", fmt.Sprint(what...), brief{got}, brief{want})
	}
}

// pick is one of a list.
func pick[T any](r *rand.Rand, l []T) T { return l[r.Intn(len(l))] }

// widest is a meter of the widest budget.
func widest() *budget.Meter { return metered(budget.Widest()) }

// metered is a meter of a budget.
func metered(b api.Budget) *budget.Meter {
	m, e := budget.New(b)
	if e != api.OK {
		panic("no budget")
	}
	return m
}

// withSteps, withRows are the widest budget, but for one part.
func withSteps(n int) api.Budget {
	b := budget.Widest()
	b.Steps = n
	return b
}
func withRows(n int) api.Budget {
	b := budget.Widest()
	b.Rows = n
	return b
}

// usedUp are meters of which a part was used up before.
func usedUp() []*budget.Meter {
	steps, rows, limbs, deep := metered(withSteps(0)), metered(withRows(3)), widest(), widest()
	steps.Pay(api.Atom{})
	rows.Rows(4)
	limbs.Pay(api.Atom{Term: api.Term{Add: long(mostLong + 1)}})
	deep.Deep(api.MaxSource + 1)
	return []*budget.Meter{steps, rows, limbs, deep}
}

// result is what one of the calls tells, and what was spent for it.
type result struct {
	out    list
	left   []int
	solved bool
	truth  uint8
	e      api.Errno
	spent  api.Budget
}

// Each call as one that tells such a result.
func put(l list, m *budget.Meter) result {
	out, truth, e := gauss.Put(l, m)
	return result{out: out, truth: truth, e: e, spent: m.Spent()}
}
func solve(l list, v int, m *budget.Meter) result {
	out, solved, truth, e := gauss.Solve(l, v, m)
	return result{out: out, solved: solved, truth: truth, e: e, spent: m.Spent()}
}
func all(l list, vars []int, m *budget.Meter) result {
	out, left, truth, e := gauss.All(l, vars, m)
	return result{out: out, left: left, truth: truth, e: e, spent: m.Spent()}
}

// alike complains unless one result is another one.
func alike(t *testing.T, got, want result, what ...any) {
	t.Helper()
	said := fmt.Sprint(what...)
	tells(t, got.out, want.out, said, ": atoms")
	tells(t, got.left, want.left, said, ": left")
	equal(t, got.solved, want.solved, said, ": solved")
	equal(t, got.truth, want.truth, said, ": truth")
	equal(t, got.e, want.e, said, ": error")
	equal(t, got.spent, want.spent, said, ": what was spent")
}

// becomes complains unless Put makes a conjunction of atoms, as the model has it.
func becomes(t *testing.T, l list, want ...api.Atom) {
	t.Helper()
	alike(t, put(l, widest()), modelAll(l, nil), "Put of ", brief{l})
	r := put(l, widest())
	equal(t, r.truth, atom.Open, "Put: truth of ", brief{l})
	tells(t, r.out, want, "Put of ", brief{l})
}

// isFalse complains unless Put tells that atoms are false.
func isFalse(t *testing.T, l list) {
	t.Helper()
	r := put(l, widest())
	alike(t, r, modelAll(l, nil), "Put of ", brief{l})
	equal(t, r.truth, atom.No, "Put: truth of ", brief{l})
	equal(t, len(r.out), 0, "Put: atoms beside what is false, of ", brief{l})
}

// spends complains unless Put pays so many steps, and tells that there are so many atoms.
func spends(t *testing.T, l list, steps, many int) {
	t.Helper()
	r := put(l, widest())
	equal(t, r.spent.Steps, steps, "Put: steps, for ", brief{l})
	equal(t, r.spent.Rows, many, "Put: rows, for ", brief{l})
}

// goes complains unless a variable goes out of atoms, and what comes of it is so.
func goes(t *testing.T, l list, v int, want ...api.Atom) {
	t.Helper()
	r := solveByModel(t, l, v)
	equal(t, r.solved && r.truth == atom.Open, true, "Solve: solved, and not false, by ", v, ", ", brief{l})
	tells(t, r.out, want, "Solve by ", v, " of ", brief{l})
}

// goesFalse complains unless a variable goes out of atoms, and what comes of it is false.
func goesFalse(t *testing.T, l list, v int) {
	t.Helper()
	r := solveByModel(t, l, v)
	equal(t, r.solved && r.truth == atom.No && len(r.out) == 0, true, "Solve: solved, and false, by ", v, ", ", brief{l})
}

// stays complains unless no variable goes out of atoms, so that they are what Put makes of them.
func stays(t *testing.T, l list, v int, want ...api.Atom) {
	t.Helper()
	r := solveByModel(t, l, v)
	equal(t, !r.solved && r.truth == atom.Open, true, "Solve: not solved, by ", v, ", ", brief{l})
	tells(t, r.out, want, "Solve by ", v, " of ", brief{l})
	tells(t, r.out, put(l, widest()).out, "Solve by ", v, ", and Put, of ", brief{l})
}

// solveByModel complains unless Solve, and All by one variable, are what the model has; it is what that is.
func solveByModel(t *testing.T, l list, v int) result {
	t.Helper()
	want := allByModel(t, l, by(v))
	got := solve(l, v, widest())
	want.solved = len(want.left) == 0
	want.left = nil
	alike(t, got, want, "Solve by ", v, " of ", brief{l})
	return got
}

// allByModel complains unless All is what the model has; it is what that is.
func allByModel(t *testing.T, l list, vars []int) result {
	t.Helper()
	got := all(l, vars, widest())
	alike(t, got, modelAll(l, vars), "All by ", brief{vars}, " of ", brief{l})
	return got
}

// leaves complains unless All leaves some variables, and some atoms.
func leaves(t *testing.T, l list, vars, left []int, want ...api.Atom) {
	t.Helper()
	r := allByModel(t, l, vars)
	equal(t, r.truth, atom.Open, "All: truth, by ", brief{vars}, ", of ", brief{l})
	tells(t, r.left, left, "All: left, by ", brief{vars}, ", of ", brief{l})
	tells(t, r.out, want, "All by ", brief{vars}, " of ", brief{l})
}

// leavesFalse complains unless All tells that what comes is false, when some variables have gone.
func leavesFalse(t *testing.T, l list, vars, left []int) {
	t.Helper()
	r := allByModel(t, l, vars)
	equal(t, r.truth == atom.No && len(r.out) == 0, true, "All: false, by ", brief{vars}, ", of ", brief{l})
	tells(t, r.left, left, "All: left of what is false, by ", brief{vars}, ", of ", brief{l})
}

// TestExamples are those of the chapter, and S5's of an equation.
func TestExamples(t *testing.T) {
	goes(t, of(eq(0, 0, 2, 1, 1), le(-3, 0, 1)), 0, le(-6, 1, -1))
	stays(t, of(lt(0, 0, 1)), 0, lt(0, 0, 1))
	leaves(t, of(eq(0, 0, 1, 1, -1), eq(-4, 0, 1, 1, 1)), by(0, 1), nil)
	isFalse(t, of(le(1)))
	goes(t, of(eq(0, 0, 1, 1, 1), lt(-1, 0, 1)), 0, lt(-1, 1, -1))
	value, is := gauss.Value(eq(0, 0, 2, 1, 1), 0, at(0, 4))
	equal(t, is, true, "Value")
	tells(t, value, rat.Int(-2), "Value")
}

// P23.1: of no atoms, of one, of each kind, canonical or not.
func TestP23_1Canonical(t *testing.T) {
	becomes(t, nil)
	becomes(t, list{})
	becomes(t, of(x(0)), x(0))
	becomes(t, of(x(lastVar)), x(lastVar))
	becomes(t, of(le(4, 0, 2)), le(2, 0, 1))
	becomes(t, of(le(3, 0, 2)), le(3, 0, 2))
	becomes(t, of(le(0, 0, -5)), le(0, 0, -1))
	becomes(t, of(lt(-6, 0, 4, 7, -10)), lt(-3, 0, 2, 7, -5))
	becomes(t, of(lt(0, 3, -8)), lt(0, 3, -1))
	becomes(t, of(eq(6, 0, -3)), eq(-2, 0, 1))
	becomes(t, of(eq(-3, 0, 2)), eq(-3, 0, 2))
	becomes(t, of(eq(0, 1, -5, 2, 5)), eq(0, 1, 1, 2, -1))
	becomes(t, of(of1(api.Eq, 2, whole.Neg(power(9)), power(9))), eq(-1, 2, 1))
	spends(t, nil, 0, 0)
	spends(t, of(x(0)), 1, 1)
	spends(t, of(le(4, 0, 2)), 1, 1)
}

// P23.1: atoms that do not rise, and such as are the same, or come to be the same, next to one another and far apart.
func TestP23_1Row(t *testing.T) {
	// Equations ahead of Le, that ahead of Lt; then by the terms.
	rising := of(eq(-7, 0, 1), eq(0, 0, 1), eq(0, 0, 1, 1, -1), eq(0, 0, 1, 1, 1), eq(0, 0, 2, 1, 1), eq(0, 1, 1), le(0, 0, -1), le(-1, 0, 1), le(0, 0, 1), le(0, 0, 1, 1, 1), le(0, 1, 1), lt(0, 0, -1), lt(0, 0, 1), lt(0, lastVar, 1))
	becomes(t, rising, rising...)
	falling := slices.Clone(rising)
	slices.Reverse(falling)
	becomes(t, falling, rising...)
	r := rand.New(rand.NewSource(231))
	for range 50 {
		l := slices.Concat(rising, rising[r.Intn(9):], rising[:r.Intn(9)])
		r.Shuffle(len(l), func(j, k int) { l[j], l[k] = l[k], l[j] })
		becomes(t, l, rising...)
		spends(t, l, len(l), len(rising))
	}
	p, q := x(0), lt(3, 1, 2)
	becomes(t, of(p, p), p)
	becomes(t, of(q, p), p, q)
	becomes(t, of(q, p, q, p, p, q), p, q)
	becomes(t, of(twice(0), x(0)), p)
	becomes(t, of(x(0), le(0, 0, 7), q, twice(0)), p, q)
	becomes(t, of(eq(-4, 0, 2), p, q, eq(2, 0, -1)), eq(-2, 0, 1), p, q)
	// What is not the same: another kind, number, Coef, variable.
	becomes(t, of(lt(0, 0, 1), x(0), zero(0), le(1, 0, 1), le(0, 0, -1), x(1), x(0)), zero(0), le(0, 0, -1), x(0), le(1, 0, 1), x(1), lt(0, 0, 1))
	many := each(50, x)
	becomes(t, slices.Concat(of(q, p), many, of(p, q, twice(49))), append(many, q)...)
	spends(t, of(p, p, p), 3, 1)
	spends(t, of(twice(0), p, le(-1), q), 3, 2)
	spends(t, slices.Concat(many, many, many), 150, 50)
}

// P23.1: atoms that are true, or false, first, in the midst, and last.
func TestP23_1Truth(t *testing.T) {
	p, q := zero(1), x(0)
	trues := of(le(0), le(-1), lt(-1), eq(0))
	falses := of(le(1), lt(0), lt(5), eq(1), eq(-1))
	for _, a := range trues {
		becomes(t, of(a))
		becomes(t, of(a, a))
		for _, l := range []list{{a, p, q}, {q, a, p}, {p, q, a}, {a, q, a, a, p, a}} {
			becomes(t, l, p, q)
			spends(t, l, 2, 2)
		}
		for _, b := range falses {
			isFalse(t, of(a, b))
			isFalse(t, of(b, a))
		}
	}
	for _, a := range falses {
		isFalse(t, of(a))
		spends(t, of(a), 0, 0)
		isFalse(t, of(a, a))
		for _, l := range []list{{a, p, q}, {p, a, q}, {p, q, a}, {a, p, a, q}, {p, a, p, p, le(0)}} {
			isFalse(t, l)
			// Each canonical atom that is Open is paid, also behind a false one; there is no conjunction then.
			steps := 0
			for _, o := range l {
				if len(o.Term.Parts) > 0 {
					steps++
				}
			}
			spends(t, l, steps, 0)
			isFalse(t, append(each(100, x), l...))
			r := solve(l, 1, widest())
			equal(t, !r.solved && r.truth == atom.No && len(r.out) == 0, true, "Solve of what is false from the beginning")
			leavesFalse(t, l, by(7, 1, 7, 0), by(7, 1, 0))
		}
		// Behind an atom for which the budget is used up nothing is asked any more.
		for k, m := range []*budget.Meter{metered(withSteps(0)), metered(withSteps(1)), metered(api.Budget{Steps: 9, Rows: 9})} {
			equal(t, put(of(p, q, a), m).e, api.ErrBudget, "false, behind an atom for which the budget is used up, ", k)
		}
		equal(t, put(of(p, a, q), metered(withSteps(1))).e, api.ErrBudget, "false, ahead of an atom for which the budget is used up")
		equal(t, put(of(p, a, q), metered(api.Budget{Steps: 2, Limbs: 1})).truth, atom.No, "what is false has no rows")
		for _, wrong := range wrongAtoms() {
			equal(t, put(of(a, wrong), widest()).e, api.ErrForm, "false, ahead of one that may not be")
			equal(t, put(of(wrong, a), widest()).e, api.ErrForm, "false, behind one that may not be")
		}
	}
}

// P23.2: by a variable that no equation has, that no atom has, that is none.
func TestP23_2NotSolved(t *testing.T) {
	stays(t, nil, 0)
	stays(t, list{}, 3)
	stays(t, of(x(0)), 0, x(0))
	stays(t, of(lt(0, 0, -1), le(2, 0, 4)), 0, le(1, 0, 2), lt(0, 0, -1))
	stays(t, of(lt(0, 0, 1), zero(1), le(3, 0, 1, 1, 1)), 0, zero(1), le(3, 0, 1, 1, 1), lt(0, 0, 1))
	stays(t, of(zero(1), zero(2), eq(0)), 0, zero(1), zero(2))
	l := of(zero(0), eq(-1, 0, 3, 1, 2), x(1), lt(2, lastVar-1, 1))
	for _, v := range by(-1, -2, 3, 64, lastVar, mostVars, mostVars+1, -mostVars, math.MinInt, math.MaxInt, 1<<32, -1<<32) {
		stays(t, l, v, eq(0, 0, 1), eq(-1, 0, 3, 1, 2), x(1), lt(2, lastVar-1, 1))
		stays(t, nil, v)
		stays(t, of(x(0)), v, x(0))
	}
	// An equation that comes to have no variable has not that one either.
	stays(t, of(eq(0), x(0)), 0, x(0))
}

// P23.2: by a variable that one equation has, first, in the midst, last in it; whose Coef there is 1, more, less than 0; also the least and the greatest variable; beside Le, Lt and Eq with the variable, with a Coef above and below 0, and without it.
func TestP23_2Solved(t *testing.T) {
	goes(t, of(zero(0)), 0)
	goes(t, of(zero(lastVar), x(lastVar), lt(-1, 0, 1, lastVar, 1)), lastVar, lt(-1, 0, 1))
	goes(t, of(eq(5, 0, 1), le(-3, 1, 1)), 0, le(-3, 1, 1))
	goes(t, of(eq(5, lastVar-1, 7, lastVar, -2), lt(0, 0, 1, lastVar, 4)), lastVar, lt(10, 0, 1, lastVar-1, 14))
	// x is 2y less 6z less 4.
	one := eq(4, 0, 1, 1, -2, 2, 6)
	goes(t, of(one, le(1, 0, 1), le(1, 0, -1), lt(0, 0, 3, 1, 1), eq(2, 0, -2, 2, 5), x(1), lt(7, 2, 2)), 0,
		eq(-10, 1, 4, 2, -17), le(5, 1, -2, 2, 6), x(1), le(-3, 1, 2, 2, -6), lt(-12, 1, 7, 2, -18), lt(7, 2, 2))
	// 2y is x and 6z and 4.
	goes(t, of(le(1, 1, 1), le(1, 1, -1), one, lt(0, 0, 1, 1, 4), x(2)), 1,
		le(-2, 0, -1, 2, -6), le(6, 0, 1, 2, 6), x(2), lt(8, 0, 3, 2, 12))
	// 6z is 2y less x less 4.
	goes(t, of(le(1, 2, 1), le(1, 2, -3), lt(0, 0, 1, 2, 2), x(1), one), 2,
		le(2, 0, -1, 1, 2), le(6, 0, 1, 1, -2), x(1), lt(-2, 0, 1, 1, 1))
	// The equation turned about, and so many times, is the same one.
	for _, n := range by(-1, 5, -12) {
		other := eq(4*n, 0, n, 1, -2*n, 2, 6*n)
		for v := range 3 {
			want := solve(of(one, x(0), le(7, 1, -5), lt(-3, 0, 1, 2, -9)), v, widest())
			got := solveByModel(t, of(x(0), other, le(7, 1, -5), lt(-3, 0, 1, 2, -9)), v)
			alike(t, got, want, "the equation, times ", n, ", by ", v)
		}
	}
}

// P23.2: equations whose Coef is long, and atoms with long ones.
func TestP23_2LongCoefs(t *testing.T) {
	for _, limbs := range by(2, 3, 30, 300) {
		n := long(limbs)
		// n x and y is 0; so n times x is y, turned.
		a := of1(api.Eq, 0, n, api.Int{})
		a.Term.Parts = append(a.Term.Parts, api.Part{Var: 1, Coef: whole.Of(1)})
		goes(t, of(a, of1(api.Le, 0, n, whole.Of(3))), 0, le(3, 1, -1))
		goes(t, of(a, of1(api.Lt, 0, whole.Of(-1), n)), 0, of1(api.Lt, 1, whole.Of(1), whole.Mul(n, n)))
		goes(t, of(a, of1(api.Le, 1, power(limbs), whole.Of(1))), 1, of1(api.Le, 0, whole.Neg(whole.Mul(n, power(limbs))), whole.Of(1)))
		goes(t, of(a, of1(api.Eq, 0, whole.Mul(n, n), n)), 0, of1(api.Eq, 1, whole.Of(1), whole.Of(-1)))
		goes(t, of(of1(api.Eq, 5, whole.Neg(n), power(limbs+1)), of1(api.Le, 5, whole.Of(-1), api.Int{}), x(3)), 5, x(3))
		goesFalse(t, of(of1(api.Eq, 5, whole.Neg(n), power(limbs+1)), x(5), x(3)), 5)
	}
}

// P23.2: a variable that many equations have goes by the first one, as they stand in the conjunction, not as they are handed in; and equations that come to be one.
func TestP23_2First(t *testing.T) {
	// x less y stands ahead of 3x and y and z, also turned about.
	for _, first := range of(eq(0, 0, 1, 1, -1), eq(0, 0, -1, 1, 1), eq(0, 0, 7, 1, -7)) {
		second := eq(0, 0, 3, 1, 1, 2, 1)
		for _, l := range []list{{first, second, le(0, 0, 1, 2, 1)}, {second, first, le(0, 0, 1, 2, 1)}, {le(0, 0, 1, 2, 1), second, second, first}} {
			goes(t, l, 0, eq(0, 1, 4, 2, 1), le(0, 1, 1, 2, 1))
			// By y, too.
			goes(t, l, 1, eq(0, 0, 4, 2, 1), le(0, 0, 1, 2, 1))
			// z has but the second one.
			goes(t, l, 2, eq(0, 0, 1, 1, -1), le(0, 0, -2, 1, -1))
		}
	}
	// Of the same parts that with the less Add; that makes both false.
	goesFalse(t, of(eq(1, 0, 1), eq(0, 0, 1)), 0)
	goes(t, of(eq(1, 0, 1, 1, 1), eq(0, 0, 1, 1, 2), x(0)), 0, eq(-1, 1, 1), le(-1, 1, -1))
	// They come to be one.
	goes(t, of(eq(0, 0, 1, 1, 1), eq(0, 0, 2, 1, 2), eq(0, 0, -3, 1, -3)), 0)
	goes(t, of(eq(2, 0, -4, 1, 6), x(0), eq(-1, 0, 2, 1, -3)), 0, le(1, 1, 3))
	// The first one of those that have it need not be the first one of all.
	goes(t, of(zero(0), eq(1, 0, 1, 1, 1), eq(0, 1, 1, 2, 2), eq(0, 3, 1)), 2, zero(0), eq(1, 0, 1, 1, 1), zero(3))
	goes(t, of(eq(0, 2, 1, 3, 1), eq(0, 1, 1), eq(5, 1, 2, 3, 1), lt(0, 3, 1)), 3, zero(1), eq(5, 1, 2, 2, -1), lt(-5, 1, -2))
}

// P23.2: what comes of atoms is true, or false, or the same as another one, or stands elsewhere in the row.
func TestP23_2Becomes(t *testing.T) {
	three := eq(-3, 0, 1)
	for _, a := range of(le(-3, 0, 1), lt(-4, 0, 1), le(2, 0, -1), eq(-6, 0, 2), lt(1, 0, -1)) {
		goes(t, of(three, a), 0)
		goes(t, of(a, x(1), three, lt(0, 2, 1)), 0, x(1), lt(0, 2, 1))
	}
	for _, a := range of(le(-2, 0, 1), lt(-3, 0, 1), le(4, 0, -1), eq(-4, 0, 1), lt(3, 0, -1), eq(-7, 0, 2)) {
		goesFalse(t, of(three, a), 0)
		goesFalse(t, of(a, x(1), three, lt(0, 2, 1)), 0)
		goesFalse(t, of(x(1), zero(7), three, a), 0)
	}
	// Of both it is false.
	goesFalse(t, of(three, le(-3, 0, 1), lt(-3, 0, 1), x(1)), 0)
	// x is y.
	same := eq(0, 0, 1, 1, -1)
	goes(t, of(same, x(0), x(1)), 0, x(1))
	goes(t, of(same, x(0), x(1)), 1, x(0))
	goes(t, of(same, lt(2, 0, 2, 1, 2), lt(1, 0, 2), lt(3, 1, 6), x(3)), 0, x(3), lt(1, 1, 2))
	goes(t, of(same, eq(0, 0, 1, 2, 1), eq(0, 1, 1, 2, 1), eq(0, 0, 2, 1, -1, 2, 1)), 0, eq(0, 1, 1, 2, 1))
	// y is 5x: what stood behind 2x stands ahead of it, or the other way about.
	goes(t, of(eq(0, 0, 5, 1, -1), le(0, 0, 2), le(-1, 0, -3), le(7, 1, 1), le(8, 0, 1, 1, -1)), 1, le(-1, 0, -3), le(2, 0, -1), x(0), le(7, 0, 5))
	goes(t, of(eq(0, 0, 1, 5, 1), le(0, 0, 1), le(0, 0, 1, 3, 1), le(0, 3, 1), lt(0, 0, 1, 1, 1)), 0, le(0, 3, 1), le(0, 3, 1, 5, -1), le(0, 5, -1), lt(0, 1, 1, 5, -1))
	// An equation whose first Coef comes to be below 0 is turned.
	goes(t, of(eq(0, 0, 1, 1, 2), eq(3, 0, 1, 1, -1, 2, 1)), 0, eq(-3, 1, 3, 2, -1))
}

// P23.2: by no variables, by one, by many, in whatever row, also by some that stand there twice, and such as are none.
func TestP23_2Vars(t *testing.T) {
	first, second, rest := eq(0, 0, 1, 1, -1), eq(-4, 0, 1, 1, 1), lt(0, 2, 1)
	l := of(second, rest, first)
	leaves(t, nil, nil, nil)
	leaves(t, nil, by(3, 1, 3), by(3, 1))
	leaves(t, l, nil, nil, first, second, rest)
	leaves(t, l, by(), nil, first, second, rest)
	leaves(t, l, by(0), nil, eq(-2, 1, 1), rest)
	leaves(t, l, by(1), nil, eq(-2, 0, 1), rest)
	leaves(t, l, by(2), by(2), first, second, rest)
	for _, vars := range [][]int{{0, 1}, {1, 0}, {0, 0, 1, 1, 0}, {1, 0, 1}} {
		leaves(t, l, vars, nil, rest)
	}
	// What is left stands as it stood, each once, also what is no variable.
	leaves(t, l, by(2, 0, 1), by(2), rest)
	leaves(t, l, by(9, 2, 0, 2, 1, 9, 5), by(9, 2, 5), rest)
	leaves(t, l, by(-1, 0, mostVars, 1, math.MinInt, -1, 2, math.MaxInt, lastVar, mostVars), by(-1, mostVars, math.MinInt, 2, math.MaxInt, lastVar), rest)
	leaves(t, l, by(-1), by(-1), first, second, rest)
	// Of an equation's variables the first one goes, as they are handed in.
	sum := of(eq(1, 0, 1, 1, 2, 2, 3), x(0), x(1), x(2))
	leaves(t, sum, by(0, 1, 2), by(1, 2), le(-1, 1, -2, 2, -3), x(1), x(2))
	leaves(t, sum, by(2, 1, 0), by(1, 0), le(-1, 0, -1, 1, -2), x(0), x(1))
	leaves(t, sum, by(1, 0, 2), by(0, 2), le(-1, 0, -1, 2, -3), x(0), x(2))
	leaves(t, sum, by(1, 2, 0), by(2, 0), le(-1, 0, -1, 2, -3), x(0), x(2))
	leaves(t, sum, by(5, 2, 2, 1, 5, 2), by(5, 1), le(-1, 0, -1, 1, -2), x(0), x(1))
	leaves(t, sum, by(-3, 1, 1<<21), by(-3, 1<<21), le(-1, 0, -1, 2, -3), x(0), x(2))
}

// P23.2: equations that have none of the variables, one, some, all; as many that go as there are variables, and fewer.
func TestP23_2Equations(t *testing.T) {
	p, q, r, s := eq(0, 0, 1, 5, 1), eq(0, 1, 1, 2, 1), eq(0, 2, 1, 5, 2), eq(-1, 5, 1, 6, 1)
	l := of(p, q, r, s, lt(0, 0, 1, 1, 1, 2, 1))
	leaves(t, l, by(7, 8), by(7, 8), l...)
	leaves(t, l, by(0, 7), by(7), q, r, s, lt(0, 1, 1, 2, 1, 5, -1))
	leaves(t, l, by(0, 1, 2), nil, s, lt(0, 5, -1))
	leaves(t, l, by(2, 1, 0), nil, s, lt(0, 5, -1))
	leaves(t, l, by(2), nil, p, eq(0, 1, 1, 5, -2), s, lt(0, 0, 1))
	leaves(t, l, by(6), nil, p, q, r, l[4])
	leaves(t, l, by(4, 6, 3), by(4, 3), p, q, r, l[4])
	leaves(t, l, by(0, 1, 2, 5, 6), by(6), lt(-1, 6, 1))
	leaves(t, l, by(6, 5, 2, 1, 0), by(0), lt(0, 0, 1))
	// As many as there are variables, and each has all of them: x is 1, y is 2, z is 3.
	full := of(eq(-6, 0, 1, 1, 1, 2, 1), eq(-11, 0, 1, 1, 2, 2, 2), eq(-13, 0, 2, 1, 1, 2, 3), le(-6, 0, 1, 1, 1, 2, 1), lt(0, 0, 1, 2, -1, 3, 1))
	leaves(t, full, by(0, 1, 2), nil, lt(-2, 3, 1))
	leaves(t, full, by(2, 0, 1), nil, lt(-2, 3, 1))
	leaves(t, full, by(1, 2), nil, eq(-1, 0, 1), lt(-7, 0, 3, 3, 2))
	leavesFalse(t, append(full, lt(-6, 0, 1, 1, 1, 2, 1)), by(1, 2, 4, 0), by(2, 4, 0))
	leavesFalse(t, append(full, lt(-3, 2, 1)), by(0, 1, 2, 5), by(5))
}

// P23.2: behind the first equation that goes another one has lost all of the variables, has become false, or the same as another one, or the first one in the row.
func TestP23_2Behind(t *testing.T) {
	// x is y: the second one has lost all of them.
	lost := of(eq(0, 0, 1, 1, -1), eq(0, 0, 1, 1, -1, 2, 1), x(1))
	leaves(t, lost[:2], by(0, 1), by(1), zero(2))
	leaves(t, lost[:2], by(1, 0), by(0), zero(2))
	leaves(t, lost, by(0, 1), by(1), zero(2), x(1))
	leaves(t, lost, by(1, 0), by(0), zero(2), x(0))
	// Others come to be the same, and true when that one goes.
	leaves(t, of(eq(1, 0, 1, 1, 1), eq(3, 0, 1, 1, 2), eq(4, 0, 2, 1, 3), eq(2, 1, 1)), by(0, 1), nil)
	leaves(t, of(eq(1, 0, 1, 1, 1), eq(2, 0, 1), eq(-1, 1, 1), x(3)), by(0, 1), nil, x(3))
	leaves(t, of(eq(0, 0, 1, 1, 1), eq(0, 0, 2, 1, 2)), by(0, 1), by(1))
	// It is false, at once, or later; who has not gone by then is left.
	leavesFalse(t, of(eq(1, 0, 1, 1, 1), eq(2, 0, 1, 1, 1), zero(2)), by(0, 1, 2), by(1, 2))
	leavesFalse(t, of(eq(1, 0, 1, 1, 1), eq(2, 0, 1, 1, 1), zero(2)), by(2, 1, 0, 1), by(2, 0))
	leavesFalse(t, of(zero(0), eq(0, 0, 1, 1, 1), eq(1, 0, 1, 1, 2), zero(3)), by(0, 1, 3, 5), by(3, 5))
	leavesFalse(t, of(zero(0), zero(1), lt(0, 0, 1, 1, 1), zero(3)), by(5, 3, 1, 0), by(5, 3))
	// x is y: 5y and w stands behind 3y and z then, which stood last.
	leaves(t, of(eq(0, 0, 1, 1, -1), eq(0, 0, 2, 1, 3, 3, 1), eq(0, 1, 3, 2, 1), lt(0, 1, 1, 2, 1)), by(0, 1), nil, eq(0, 2, 5, 3, -3), lt(0, 2, 1))
	// y and w stands ahead of 3y and z.
	leaves(t, of(eq(0, 0, 1, 1, -1), eq(0, 0, 2, 1, -1, 3, 1), eq(0, 1, 3, 2, 1), lt(0, 1, 1, 2, 1)), by(0, 1), nil, eq(0, 2, 1, 3, -3), lt(0, 2, 1, 3, -1))
}

// wrongInts are whole numbers that may not be.
func wrongInts() []api.Int {
	return []api.Int{{Neg: true}, {Limbs: []uint32{0}}, {Limbs: []uint32{5, 0}}, {Neg: true, Limbs: []uint32{0}}, long(mostLong + 1)}
}

// wrongAtoms are atoms that may not be, for each reason.
func wrongAtoms() list {
	good := linear(0, 0, 1)
	l := list{
		{Kind: 4, Term: good}, {Kind: 255}, {Kind: api.Div, Term: good}, {Kind: api.Div, Term: good, Mod: whole.Of(-2)}, {Term: good, Mod: whole.Of(1)}, {Kind: api.Eq, Mod: whole.Of(2)}, {Kind: api.Lt, Term: good, Mod: whole.Of(-1)},
		{Term: linear(0, -1, 1)}, {Term: linear(0, mostVars, 1)}, {Term: linear(0, 1, 1, 0, 1)}, {Term: linear(0, 1, 1, 1, 1)}, {Term: linear(0, 0, 0)}, {Kind: api.Lt, Term: linear(1, 3, 0)}, {Kind: api.Div, Term: linear(1, 3, 0), Mod: whole.Of(2)},
	}
	for _, n := range wrongInts() {
		l = append(l, api.Atom{Term: api.Term{Add: n}}, of1(api.Lt, 0, n, api.Int{}), api.Atom{Kind: api.Div, Term: good, Mod: n}, api.Atom{Kind: api.Eq, Term: good, Mod: n})
	}
	return append(l, wrongEquations()...)
}

// wrongEquations are equations that may not be, for each reason; all but some of those without parts have the variable 0, if anything does.
func wrongEquations() list {
	l := list{
		eq(0, -1, 1, 0, 1), eq(0, 0, 1, mostVars, 1), eq(0, 0, 1, math.MaxInt, 2), eq(0, 1, 1, 0, 1), eq(0, 0, 1, 0, 1), eq(0, 0, 0), eq(0, 0, 1, 3, 0), eq(0, 0, 1, 5, 1, 4, 1), eq(5, math.MinInt, 1),
	}
	for _, n := range []int{1, -1, 7} {
		l = append(l, api.Atom{Kind: api.Eq, Term: linear(2, 0, 3), Mod: whole.Of(n)}, api.Atom{Kind: api.Eq, Mod: whole.Of(n)})
	}
	for _, n := range wrongInts() {
		l = append(l, of1(api.Eq, 0, n, api.Int{}), of1(api.Eq, 0, whole.Of(3), n), api.Atom{Kind: api.Eq, Term: linear(2, 0, 3), Mod: n}, api.Atom{Kind: api.Eq, Term: api.Term{Parts: []api.Part{{Var: 0, Coef: whole.Of(1)}, {Var: 1, Coef: n}}}})
	}
	return l
}

// divs are atoms that may be over the whole numbers alone.
func divs() list {
	return of(div(2, 0, 0, 1), div(1, 0), div(1, 5, 0, 1), div(3, 1), div(7, 0, lastVar, 1))
}

// values complains unless an equation has a Value by a variable.
func values(t *testing.T, a api.Atom, v int, l []api.Rat, want api.Rat) {
	t.Helper()
	got, is := gauss.Value(a, v, l)
	equal(t, is, true, "Value by ", v, " of ", brief{a})
	tells(t, got, want, "Value by ", v, " of ", brief{a}, ", ", brief{l})
}

// hasNone complains unless an atom has no Value by a variable.
func hasNone(t *testing.T, a api.Atom, v int, l []api.Rat) {
	t.Helper()
	got, is := gauss.Value(a, v, l)
	equal(t, is, false, "Value by ", v, " of ", brief{a})
	tells(t, got, api.Rat{}, "Value, beside no, by ", v, " of ", brief{a})
}

// P23.2: of an equation that has the variable alone, and among others, by no values, by few, by more than there are variables.
func TestP23_2Value(t *testing.T) {
	zero, half := rat.Int(0), quotient(1, 2)
	lists := [][]api.Rat{nil, {}, at(3), at(1, 2, 3), {half, half, half}, each(100, func(int) api.Rat { return half })}
	for _, l := range lists {
		// Alone: not made canonical, and whatever that variable's own value is.
		values(t, eq(0, 0, 1), 0, l, zero)
		values(t, eq(0, 0, -7), 0, l, zero)
		values(t, eq(3, 0, 1), 0, l, rat.Int(-3))
		values(t, eq(3, 0, -1), 0, l, rat.Int(3))
		values(t, eq(-4, 0, 6), 0, l, quotient(2, 3))
		values(t, eq(-4, 0, -6), 0, l, quotient(-2, 3))
		values(t, eq(8, 2, -4), 2, l, rat.Int(2))
		values(t, eq(-9, lastVar, 6), lastVar, l, quotient(3, 2))
		values(t, of1(api.Eq, 1, whole.Neg(power(7)), power(9)), 1, l, rat.Of(power(3)))
	}
	// 2x and 3y less 4z and 5 is 0.
	a := eq(5, 0, 2, 1, 3, 2, -4)
	values(t, a, 0, nil, quotient(-5, 2))
	values(t, a, 1, nil, quotient(-5, 3))
	values(t, a, 2, nil, quotient(5, 4))
	values(t, a, 0, at(9), quotient(-5, 2))
	values(t, a, 1, at(9), quotient(-23, 3))
	values(t, a, 2, at(9), quotient(23, 4))
	values(t, a, 0, at(9, 1), rat.Int(-4))
	values(t, a, 0, at(9, 1, 2), zero)
	values(t, a, 1, at(9, 1, 2), rat.Int(-5))
	values(t, a, 2, at(9, 1, 2), quotient(13, 2))
	values(t, a, 2, at(9, 1, 2, 7, 8, 9), quotient(13, 2))
	values(t, a, 0, []api.Rat{zero, half, quotient(-1, 3)}, quotient(-47, 12))
	values(t, a, 1, []api.Rat{half, half, quotient(-1, 4)}, quotient(-7, 3))
	// The greatest variable, and a list that does not come near it.
	values(t, eq(0, 0, 1, lastVar, 2), lastVar, at(-6), rat.Int(3))
	values(t, eq(1, 0, 1, lastVar, 2), 0, at(-6), rat.Int(-1))
	many := make([]api.Rat, mostVars+1)
	many[lastVar], many[mostVars] = rat.Int(5), rat.Int(7)
	values(t, eq(1, 0, 1, lastVar, 2), 0, many, rat.Int(-11))
}

// P23.2: by values that may not be, which are as 0.
func TestP23_2ValueWrongValues(t *testing.T) {
	one := whole.Of(1)
	wrong := []api.Rat{{}, {Num: one}, {Num: one, Den: whole.Of(-1)}, {Num: whole.Of(2), Den: whole.Of(4)}, {Den: whole.Of(7)}, {Num: whole.Of(3), Den: whole.Of(3)}}
	for _, n := range wrongInts() {
		wrong = append(wrong, api.Rat{Num: n, Den: one}, api.Rat{Num: one, Den: n})
	}
	a := eq(6, 0, 2, 1, 3, 2, -4)
	for _, w := range wrong {
		values(t, a, 0, []api.Rat{w, w, w}, rat.Int(-3))
		values(t, a, 1, []api.Rat{w}, rat.Int(-2))
		values(t, a, 2, []api.Rat{rat.Int(1), w, w}, rat.Int(2))
		values(t, a, 1, []api.Rat{w, w, rat.Int(3), w}, rat.Int(2))
		values(t, a, 0, []api.Rat{w, quotient(2, 3), w}, rat.Int(-4))
		values(t, eq(1, 0, 2), 0, []api.Rat{w}, quotient(-1, 2))
	}
}

// P23.2: of what is no equation, of one that may not be, and of one that has not the variable.
func TestP23_2NoValue(t *testing.T) {
	for _, l := range [][]api.Rat{nil, at(1, 2, 3), {{}, {}}} {
		for v := range 3 {
			for _, a := range of(x(0), twice(1), le(3, 0, 1, 1, 2, 2, 3), lt(0, 0, 1), lt(3, 0, 1, 1, 2, 2, 3), le(0), eq(0), eq(3), div(2, 0, 0, 1), div(5, 3, 0, 1, 1, 2, 2, 3), api.Atom{}) {
				hasNone(t, a, v, l)
			}
			for _, a := range wrongAtoms() {
				hasNone(t, a, v, l)
			}
		}
		for _, a := range wrongEquations() {
			for _, v := range by(-1, 3, 5, mostVars, math.MaxInt, math.MinInt) {
				hasNone(t, a, v, l)
			}
		}
		for _, v := range by(2, 4, 63, -1, -2, lastVar-1, mostVars, mostVars+1, math.MinInt, math.MaxInt, 1<<32, 1<<32+1) {
			hasNone(t, eq(3, 0, 1, 1, 2, 3, 4, lastVar, 1), v, l)
			hasNone(t, zero(1), v, l)
			hasNone(t, zero(lastVar), v, l)
		}
	}
}

// caller is one of the calls, by one of the ways in which variables are handed in; it tells what it tells, and whether there is something beside an error.
type caller struct {
	name string
	call func(l list, m *budget.Meter) (e api.Errno, beside bool)
}

// callers are all of them.
func callers() []caller {
	l := []caller{{"Put", func(l list, m *budget.Meter) (api.Errno, bool) {
		out, truth, e := gauss.Put(l, m)
		return e, len(out) > 0 || truth != 0
	}}}
	for _, v := range by(0, 2, -1, mostVars) {
		l = append(l, caller{fmt.Sprint("Solve by ", v), func(l list, m *budget.Meter) (api.Errno, bool) {
			out, solved, truth, e := gauss.Solve(l, v, m)
			return e, len(out) > 0 || solved || truth != 0
		}})
	}
	for _, vars := range [][]int{nil, {0}, {1, 0, 1}, {5, 2, -1, mostVars}} {
		l = append(l, caller{fmt.Sprint("All by ", vars), func(l list, m *budget.Meter) (api.Errno, bool) {
			out, left, truth, e := gauss.All(l, vars, m)
			return e, len(out)+len(left) > 0 || truth != 0
		}})
	}
	return l
}

// refuse complains unless all calls tell an error, and nothing beside it.
func refuse(t *testing.T, want api.Errno, l list, m func() *budget.Meter, what ...any) {
	t.Helper()
	for _, c := range callers() {
		e, beside := c.call(l, m())
		equal(t, e, want, c.name, ": ", fmt.Sprint(what...))
		equal(t, beside, false, c.name, ", beside the error: ", fmt.Sprint(what...))
	}
}

// TestErrors holds each row of the table against the rows behind it, with what may not be first, in the midst, and last.
func TestErrors(t *testing.T) {
	nilMeter := func() *budget.Meter { return nil }
	meters := []func() *budget.Meter{widest, func() *budget.Meter { return metered(withSteps(0)) }, func() *budget.Meter { return metered(api.Budget{}) }, func() *budget.Meter { return &budget.Meter{} }}
	for k := range usedUp() {
		meters = append(meters, func() *budget.Meter { return usedUp()[k] })
	}
	refuse(t, api.ErrNil, nil, nilMeter, "no meter, no atoms")
	goods := []list{{x(0), zero(0), lt(1, 2, 1)}, {le(0), lt(0), eq(4)}, {eq(0, 0, 1, 1, 1), zero(0), x(1), eq(3, 0, 1)}, {x(1)}}
	with := func(a api.Atom, test func(l list, at int)) {
		for _, l := range goods {
			for _, at := range []int{0, len(l) / 2, len(l) - 1} {
				m := slices.Clone(l)
				m[at] = a
				test(m, at)
			}
			test(append(slices.Clone(l), a), len(l))
			test(append(of(a), l...), 0)
		}
		test(of(a), 0)
		test(of(a, a), 0)
	}
	check := func(want api.Errno, a api.Atom, kind string, k int, meters []func() *budget.Meter) {
		with(a, func(l list, at int) {
			refuse(t, api.ErrNil, l, nilMeter, "no meter, ", kind, k, " at ", at)
			for n, m := range meters {
				refuse(t, want, l, m, kind, k, " at ", at, " of ", len(l), ", meter ", n)
			}
		})
	}
	for k, a := range goods[2] {
		with(a, func(l list, at int) { refuse(t, api.ErrNil, l, nilMeter, "no meter, good atom ", k, " at ", at) })
	}
	for k, a := range wrongAtoms() {
		check(api.ErrForm, a, "wrong atom ", k, meters[:5])
	}
	for k, a := range divs() {
		check(api.ErrSort, a, "Div ", k, meters)
		for n, wrong := range wrongAtoms() {
			refuse(t, api.ErrForm, of(a, x(0), wrong), widest, "Div ", k, ", ahead of wrong atom ", n)
			refuse(t, api.ErrForm, of(wrong, zero(0), a), widest, "Div ", k, ", behind wrong atom ", n)
		}
	}
	// A meter that said before that a part is used up says nothing else, whatever it is asked.
	for k, l := range append(goods, nil, of(x(0)), of(le(0)), of(lt(0)), of(zero(0)), each(3000, zero)) {
		for n, m := range meters[4:] {
			refuse(t, api.ErrBudget, l, m, "meter ", n, ", atoms ", k)
			for _, c := range callers() {
				m := m()
				was, why := m.Spent(), budget.Text(m.Why())
				c.call(l, m)
				equal(t, m.Spent(), was, "what was spent, meter ", n, ", atoms ", k)
				equal(t, budget.Text(m.Why()), why, "why, meter ", n, ", atoms ", k)
			}
		}
	}
	// What may not be is looked at ahead of all that is paid.
	m := widest()
	for _, c := range callers() {
		c.call(of(x(0), zero(0), wrongAtoms()[0]), m)
		c.call(of(x(0), zero(0), divs()[0]), m)
	}
	equal(t, m.Spent(), api.Budget{}, "what was spent for what may not be")
}

// TestErrorsMany has what may not be among many atoms.
func TestErrorsMany(t *testing.T) {
	l := each(3000, func(k int) api.Atom { return eq(k, k, 2, k+1, 1) })
	for _, at := range []int{0, 1500, 2999} {
		for want, a := range map[api.Errno]api.Atom{api.ErrForm: wrongAtoms()[4], api.ErrSort: divs()[0]} {
			was := l[at]
			l[at] = a
			refuse(t, want, l, widest, "of many atoms the one at ", at)
			l[at] = was
		}
	}
}
