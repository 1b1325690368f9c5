package fm_test

import (
	"fmt"
	"math"
	"math/rand"
	"slices"
	"testing"

	"alidade/api"
	"alidade/atom"
	"alidade/budget"
	"alidade/fm"
	"alidade/rat"
	"alidade/rows"
	"alidade/whole"
)

const (
	mostVars = 1 << 20
	mostRows = 1 << 20
	mostLong = 1 << 16
	lastVar  = mostVars - 1
)

// These are written often.
type (
	row  = rows.Row
	list = []rows.Row
)

// linear is the term of a number, and of variables, each with its Coef behind it; they have to rise.
func linear(add int, l ...int) api.Term {
	t := api.Term{Add: whole.Of(add)}
	for ; len(l) > 0; l = l[2:] {
		t.Parts = append(t.Parts, api.Part{Var: l[0], Coef: whole.Of(l[1])})
	}
	return t
}

// le, lt, eq, div are atoms of linear terms.
func le(add int, l ...int) api.Atom { return api.Atom{Kind: api.Le, Term: linear(add, l...)} }
func lt(add int, l ...int) api.Atom { return api.Atom{Kind: api.Lt, Term: linear(add, l...)} }
func eq(add int, l ...int) api.Atom { return api.Atom{Kind: api.Eq, Term: linear(add, l...)} }
func div(mod, add int, l ...int) api.Atom {
	return api.Atom{Kind: api.Div, Term: linear(add, l...), Mod: whole.Of(mod)}
}

// sum is an atom of a kind, of variables from 0 on, each with its Coef (0: it is not there), and a number.
func sum(kind uint8, add api.Int, coefs ...api.Int) api.Atom {
	a := api.Atom{Kind: kind, Term: api.Term{Add: add}}
	for v, n := range coefs {
		if whole.Sign(n) != 0 {
			a.Term.Parts = append(a.Term.Parts, api.Part{Var: v, Coef: n})
		}
	}
	return a
}

// from is a row: an atom, and from where it comes.
func from(a api.Atom, numbers ...int) row { return row{Atom: a, From: rows.From(numbers)} }

// of are rows, each from its own place; by are numbers; at are whole numbers, as values; in are quotients.
func of(l ...api.Atom) list { return each(len(l), func(k int) row { return from(l[k], k) }) }
func by(l ...int) []int     { return l }
func at(l ...int) []api.Rat { return each(len(l), func(k int) api.Rat { return rat.Int(l[k]) }) }
func in(num, den int) api.Rat {
	q, e := rat.Make(whole.Of(num), whole.Of(den))
	if e != api.OK {
		panic("no quotient")
	}
	return q
}

// each is what a call makes of so many numbers, from 0 on.
func each[T any](many int, call func(k int) T) []T {
	var l []T
	for k := range many {
		l = append(l, call(k))
	}
	return l
}

// long is a whole number of so many limbs, all of them 1.
func long(limbs int) api.Int { return api.Int{Limbs: slices.Repeat([]uint32{1}, limbs)} }

// power is the whole number whose last limb of so many is 1, all others being 0.
func power(limbs int) api.Int {
	n := make([]uint32, limbs)
	n[limbs-1] = 1
	return api.Int{Limbs: n}
}

// brief is something whose text is made only when it is told: how it begins and ends.
type brief struct{ of any }

func (b brief) String() string {
	s := fmt.Sprint(b.of)
	if len(s) > 600 {
		s = s[:300] + " .. " + s[len(s)-300:]
	}
	return s
}

// equal complains unless something is what is wanted.
func equal[T comparable](t *testing.T, got, want T, what ...any) {
	t.Helper()
	if got != want {
		t.Errorf("%s: got %v, want %v", fmt.Sprint(what...), got, want)
	}
}

// tells complains unless something is what is wanted, just so; none and nothing are the same.
func tells[T row | list | api.Rat](t *testing.T, got, want T, what ...any) {
	t.Helper()
	if fmt.Sprint(got) != fmt.Sprint(want) {
		t.Errorf("%s: got %s, want %s", fmt.Sprint(what...), brief{got}, brief{want})
	}
}

// pick is one of a list.
func pick[T any](r *rand.Rand, l []T) T { return l[r.Intn(len(l))] }

// widest is a meter of the widest budget.
func widest() *budget.Meter { return metered(budget.Widest()) }

// metered is a meter of a budget.
func metered(b api.Budget) *budget.Meter {
	m, e := budget.New(b)
	if e != api.OK {
		panic("no budget")
	}
	return m
}

// withSteps, withRows are the widest budget, but for one part.
func withSteps(n int) api.Budget {
	b := budget.Widest()
	b.Steps = n
	return b
}
func withRows(n int) api.Budget {
	b := budget.Widest()
	b.Rows = n
	return b
}

// usedUp are meters of which a part was used up before.
func usedUp() []*budget.Meter {
	steps, rows, limbs, deep := metered(withSteps(0)), metered(withRows(3)), widest(), widest()
	steps.Pay(api.Atom{})
	rows.Rows(4)
	limbs.Pay(api.Atom{Term: api.Term{Add: long(mostLong + 1)}})
	deep.Deep(api.MaxSource + 1)
	return []*budget.Meter{steps, rows, limbs, deep}
}

// result is what Drop tells, and what was spent for it.
type result struct {
	out   list
	truth uint8
	e     api.Errno
	spent api.Budget
}

// drop is Drop, with such a result.
func drop(l list, v int, m *budget.Meter) result {
	out, truth, e := fm.Drop(l, v, m)
	return result{out, truth, e, m.Spent()}
}

// alike complains unless one result is another one.
func alike(t *testing.T, got, want result, what ...any) {
	t.Helper()
	said := fmt.Sprint(what...)
	tells(t, got.out, want.out, said, ": rows")
	equal(t, got.truth, want.truth, said, ": truth")
	equal(t, got.e, want.e, said, ": error")
	equal(t, got.spent, want.spent, said, ": what was spent")
}

// dropByModel complains unless Drop is what the model has; it is what that is.
func dropByModel(t *testing.T, l list, v int) result {
	t.Helper()
	got := drop(l, v, widest())
	alike(t, got, modelDrop(l, v), "Drop by ", v, " of ", brief{l})
	return got
}

// leaves complains unless some rows come of rows without a variable.
func leaves(t *testing.T, l list, v int, want ...row) {
	t.Helper()
	got := dropByModel(t, l, v)
	equal(t, got.truth, atom.Open, "Drop: truth, by ", v, ", of ", brief{l})
	tells(t, got.out, want, "Drop by ", v, " of ", brief{l})
}

// isFalse complains unless rows without a variable are false.
func isFalse(t *testing.T, l list, v int) {
	t.Helper()
	got := dropByModel(t, l, v)
	equal(t, got.truth == atom.No && len(got.out) == 0, true, "Drop: false, by ", v, ", of ", brief{l})
}

// spends complains unless Drop pays so many steps, and tells so many rows at most.
func spends(t *testing.T, l list, v, steps, many int) {
	t.Helper()
	got := drop(l, v, widest())
	equal(t, got.spent.Steps, steps, "Drop: steps, for ", brief{l})
	equal(t, got.spent.Rows, many, "Drop: rows, for ", brief{l})
}

// joins complains unless two rows come to one together, and to nothing the other way about.
func joins(t *testing.T, up, low row, v int, want row) {
	t.Helper()
	got, is := fm.Both(up, low, v)
	equal(t, is, true, "Both by ", v, " of ", brief{up}, brief{low})
	tells(t, got, want, "Both by ", v, " of ", brief{up}, brief{low})
	notBoth(t, low, up, v)
}

// notBoth complains unless two rows do not come to one.
func notBoth(t *testing.T, up, low row, v int) {
	t.Helper()
	got, is := fm.Both(up, low, v)
	equal(t, is, false, "Both by ", v, " of ", brief{up}, brief{low})
	tells(t, got, row{}, "Both, beside no, by ", v, " of ", brief{up}, brief{low})
}

// between complains unless Between tells a number.
func between(t *testing.T, l list, v int, values []api.Rat, want api.Rat) {
	t.Helper()
	got, is := fm.Between(l, v, values)
	equal(t, is, true, "Between by ", v, " of ", brief{l})
	tells(t, got, want, "Between by ", v, " of ", brief{l})
}

// notBetween complains unless Between tells that there is none.
func notBetween(t *testing.T, l list, v int, values []api.Rat) {
	t.Helper()
	got, is := fm.Between(l, v, values)
	equal(t, is, false, "Between by ", v, " of ", brief{l})
	tells(t, got, api.Rat{}, "Between, beside no, by ", v, " of ", brief{l})
}

// TestExamples are those of the chapter, and S5's.
func TestExamples(t *testing.T) {
	up, low, rest := from(le(0, 0, 2, 1, 1), 0), from(lt(1, 0, -3), 1), from(le(-5, 1, 1), 2)
	both := from(lt(2, 1, 3), 0, 1)
	joins(t, up, low, 0, both)
	leaves(t, list{up, low, rest}, 0, rest, both)
	between(t, list{up, low}, 0, at(0, -2), in(2, 3))
	// A bound that is told on; and strict.
	leaves(t, of(le(0, 0, -1, 1, 1), le(-3, 0, 1)), 0, from(le(-3, 1, 1), 0, 1))
	leaves(t, of(le(0, 0, -1, 1, 1), lt(0, 0, 1, 2, -1)), 0, from(lt(0, 1, 1, 2, -1), 0, 1))
	// 0 < 2x < 1.
	between(t, of(lt(0, 0, -2), lt(-1, 0, 2)), 0, nil, in(1, 4))
}

// wrongInts are numbers that may not be.
func wrongInts() []api.Int {
	return []api.Int{{Neg: true}, {Limbs: []uint32{0}}, {Limbs: []uint32{5, 0}}, {Neg: true, Limbs: []uint32{0}}, long(mostLong + 1)}
}

// wrongAtoms are atoms that may not be, for each reason, most of which have variable 0.
func wrongAtoms() []api.Atom {
	good := linear(0, 0, 1)
	l := []api.Atom{
		{Kind: 4, Term: good}, {Kind: 255, Term: good}, {Kind: api.Div, Term: good}, {Kind: api.Div, Term: good, Mod: whole.Of(-2)}, {Term: good, Mod: whole.Of(1)}, {Kind: api.Eq, Term: good, Mod: whole.Of(2)}, {Kind: api.Lt, Term: good, Mod: whole.Of(-1)},
		{Term: linear(0, -1, 1, 0, 1)}, {Term: linear(0, 0, 1, mostVars, 1)}, {Term: linear(0, 1, 1, 0, 1)}, {Term: linear(0, 0, 1, 0, 1)}, {Term: linear(0, 0, 0)}, {Kind: api.Lt, Term: linear(1, 0, -1, 3, 0)}, {Kind: api.Div, Term: linear(1, 3, 0), Mod: whole.Of(2)},
	}
	for _, n := range wrongInts() {
		l = append(l, sum(api.Le, n, whole.Of(1)), sum(api.Lt, n, whole.Of(-1)), api.Atom{Kind: api.Lt, Term: api.Term{Parts: []api.Part{{Var: 0, Coef: n}}}}, api.Atom{Kind: api.Eq, Term: api.Term{Parts: []api.Part{{Var: 0, Coef: whole.Of(1)}, {Var: 1, Coef: n}}}}, api.Atom{Kind: api.Eq, Term: good, Mod: n})
	}
	return l
}

// wrongRows are rows that may not be, for each reason: their atom may not be, or is a Div; their set may not be, or is empty.
func wrongRows() list {
	var l list
	for _, a := range append(wrongAtoms(), div(2, 0, 0, 1), div(1, 0, 0, 1), div(3, 1, 0, -1), div(7, 1)) {
		l = append(l, from(a, 0))
	}
	for _, s := range []rows.Set{nil, {}, {0}, {1, 0}, {0, 0}, {1, 2, 0}, slices.Repeat(rows.Set{0}, 50)} {
		for _, a := range []api.Atom{le(0, 0, 1), lt(0, 0, -1), eq(1, 0, 3), le(0), lt(0)} {
			l = append(l, row{Atom: a, From: s})
		}
	}
	return append(l, row{})
}

// notVars are numbers that are no variables.
func notVars() []int {
	return by(-1, -2, mostVars, mostVars+1, -mostVars, 1<<32, -1<<32, math.MinInt, math.MaxInt)
}

// P24.1: Side by each variable of rows of each kind: first, in the midst, last, alone.
func TestP24_1Side(t *testing.T) {
	for kind := range uint8(api.Div) {
		is := func(v, want int, l ...int) {
			t.Helper()
			a := api.Atom{Kind: kind, Term: linear(7, l...)}
			for _, set := range [][]int{{0}, {63, 64, 700}, {mostRows - 1}} {
				equal(t, fm.Side(from(a, set...), v), want, "Side by ", v, " of kind ", kind, l)
			}
		}
		for _, n := range by(1, 2, 12, math.MaxInt) {
			for v, w := range map[int]int{0: 1, 5: 1, 7: -1, lastVar: 1} {
				is(v, w, 0, n, 5, n, 7, -n, lastVar, n)
				is(v, -w, 0, -n, 5, -n, 7, n, lastVar, -n)
				is(v, 1, v, n)
				is(v, -1, v, -n)
			}
			for _, v := range append(notVars(), 1, 4, 6, 8, lastVar-1) {
				is(v, 0, 0, n, 5, -n, 7, n, lastVar, n)
				is(v, 0)
			}
		}
		long := sum(kind, api.Int{}, power(mostLong), whole.Neg(power(9)))
		equal(t, fm.Side(from(long, 3), 0), 1, "Side of long Coefs")
		equal(t, fm.Side(from(long, 3), 1), -1, "Side of long Coefs")
	}
	for k, r := range wrongRows() {
		for _, v := range append(notVars(), 0, 1, 3, lastVar) {
			equal(t, fm.Side(r, v), 0, "Side by ", v, " of wrong row ", k)
		}
	}
}

// P24.1: Both of rows that are strict, and that are not, with whatever Coefs and other variables.
func TestP24_1Both(t *testing.T) {
	up, low := from(le(1, 0, 1, 1, 2), 0), from(le(5, 0, -1, 2, 3), 1)
	joins(t, up, low, 0, from(le(6, 1, 2, 2, 3), 0, 1))
	strict := func(r row) row { r.Atom.Kind = api.Lt; return r }
	both := from(lt(6, 1, 2, 2, 3), 0, 1)
	joins(t, strict(up), low, 0, both)
	joins(t, up, strict(low), 0, both)
	joins(t, strict(up), strict(low), 0, both)
	// Coefs that are greater, and that have a common divisor: what is made is not canonical.
	joins(t, from(le(1, 0, 2, 1, 3), 0), from(le(5, 0, -7, 1, 1), 1), 0, from(le(17, 1, 23), 0, 1))
	joins(t, from(le(1, 0, 4, 1, 3), 0), from(le(5, 0, -6, 1, 1), 1), 0, from(le(26, 1, 22), 0, 1))
	joins(t, from(lt(0, 0, 4, 1, 3), 0), from(le(0, 0, -6, 1, 3), 1), 0, from(lt(0, 1, 30), 0, 1))
	joins(t, from(le(2, 0, 2, 1, 4), 0), from(le(6, 0, -3), 1), 0, from(le(18, 1, 12), 0, 1))
	joins(t, from(le(0, 0, 5), 0), from(lt(0, 0, -5, 9, 1), 1), 0, from(lt(0, 9, 5), 0, 1))
	// Other variables go, too.
	joins(t, from(le(1, 0, 2, 1, 3, 2, 1), 0), from(le(5, 0, -4, 1, -6, 3, 1), 1), 0, from(le(14, 2, 4, 3, 2), 0, 1))
	joins(t, from(le(1, 0, 2, 1, 3, 2, 1), 0), from(le(5, 0, -4, 1, -6, 3, 1), 1), 1, from(le(21, 2, 6, 3, 3), 0, 1))
	joins(t, from(le(-1, 0, 1, 1, 1), 0), from(le(0, 0, -1, 1, -1), 1), 0, from(le(-1), 0, 1))
	joins(t, from(le(-1, 0, 1, 1, 1), 0), from(le(0, 0, -1, 1, -1), 1), 1, from(le(-1), 0, 1))
	// Nothing is left but a number: true, or false.
	joins(t, from(le(-3, 0, 1), 0), from(le(2, 0, -1), 1), 0, from(le(-1), 0, 1))
	joins(t, from(le(-2, 0, 1), 0), from(le(2, 0, -1), 1), 0, from(le(0), 0, 1))
	joins(t, from(lt(-2, 0, 1), 0), from(le(2, 0, -1), 1), 0, from(lt(0), 0, 1))
	joins(t, from(le(-1, 0, 3), 0), from(lt(2, 0, -5), 1), 0, from(lt(1), 0, 1))
	// The variable in the midst, last, the greatest one.
	joins(t, from(le(0, 3, 1, 5, 2, 9, -1), 0), from(lt(0, 3, 1, 5, -3, 8, 2), 1), 5, from(lt(0, 3, 5, 8, 4, 9, -3), 0, 1))
	joins(t, from(le(0, 3, 1, lastVar, 2), 0), from(lt(4, 3, 1, lastVar, -3), 1), lastVar, from(lt(8, 3, 5), 0, 1))
	joins(t, from(le(4, lastVar, 2), 0), from(lt(0, 0, 3, lastVar, -3), 1), lastVar, from(lt(12, 0, 6), 0, 1))
	// Long Coefs.
	n := long(300)
	joins(t, from(sum(api.Le, whole.Of(3), n, whole.Of(1)), 0), from(sum(api.Le, whole.Of(-4), whole.Neg(n), whole.Of(2)), 1), 0, from(sum(api.Le, whole.Neg(n), api.Int{}, whole.Mul(n, whole.Of(3))), 0, 1))
	joins(t, from(sum(api.Lt, n, whole.Of(1), n), 0), from(sum(api.Le, api.Int{}, whole.Neg(power(200)), whole.Of(1)), 1), 0, from(sum(api.Lt, whole.Mul(n, power(200)), api.Int{}, whole.Add(whole.Mul(n, power(200)), whole.Of(1))), 0, 1))
}

// P24.1: what Both comes from is what is in either set.
func TestP24_1BothSets(t *testing.T) {
	for _, c := range [][3][]int{
		{{0}, {0}, {0}}, {{0}, {1}, {0, 1}}, {{5, 3}, {3}, {3, 5}}, {{3}, {3, 5}, {3, 5}}, {{0, 9}, {1, 9}, {0, 1, 9}},
		{{64}, {0}, {0, 64}}, {{0}, {64}, {0, 64}}, {{0, 64, 700}, {64}, {0, 64, 700}}, {{63}, {63, 64, 127, 128}, {63, 64, 127, 128}}, {{mostRows - 1}, {2}, {2, mostRows - 1}}, {{1, 200}, {1, 200}, {1, 200}},
	} {
		joins(t, from(le(0, 0, 1, 1, 1), c[0]...), from(le(0, 0, -1, 2, 1), c[1]...), 0, from(le(0, 1, 1, 2, 1), c[2]...))
	}
}

// P24.1: rows of which Both makes nothing: of one side, of none, equations, such as may not be, by what is no variable.
func TestP24_1NotBoth(t *testing.T) {
	up, low, none := from(le(1, 0, 1, 1, 2), 0), from(lt(5, 0, -1, 2, 3), 1), from(le(0, 1, 1, 2, -1), 2)
	good := list{up, low, none}
	for _, r := range good {
		notBoth(t, r, r, 0)
		notBoth(t, r, none, 0)
		notBoth(t, none, r, 0)
		notBoth(t, r, up, 0)
		notBoth(t, low, r, 0)
		for _, v := range append(notVars(), 3, lastVar) {
			for _, s := range good {
				notBoth(t, r, s, v)
			}
		}
		for _, a := range []api.Atom{eq(0, 0, 1), eq(0, 0, -1), eq(3, 0, 2, 1, 1), eq(3, 0, -2, 1, 1), eq(3, 1, 2), eq(0), eq(1)} {
			e := from(a, 3)
			notBoth(t, r, e, 0)
			notBoth(t, e, r, 0)
			notBoth(t, e, e, 0)
			for _, b := range []api.Atom{eq(0, 0, 1), eq(0, 0, -1)} {
				notBoth(t, e, from(b, 4), 0)
			}
		}
		for _, w := range wrongRows() {
			notBoth(t, r, w, 0)
			notBoth(t, w, r, 0)
			notBoth(t, w, w, 0)
		}
	}
	// By another variable each of them may stand elsewhere.
	notBoth(t, up, low, 1)
	notBoth(t, from(le(0, 0, 1, 1, 1), 0), from(le(0, 0, -1, 1, 1), 1), 1)
	joins(t, from(le(0, 0, -1, 1, 1), 0), from(le(0, 0, 1, 1, -1), 1), 1, from(le(0), 0, 1))
}

// P24.1: Drop of rows of some sides alone.
func TestP24_1DropSides(t *testing.T) {
	ups := list{from(le(0, 0, 1), 0), from(lt(4, 0, 2, 1, 6), 1), from(le(-1, 0, 3, 2, -1), 5)}
	lows := list{from(le(1, 0, -1), 2), from(lt(0, 0, -5, 2, 1), 3)}
	stay := list{from(le(-5, 1, 1), 4), from(lt(0, 2, 3), 6), from(eq(0, 1, 1, 3, 1), 7)}
	canonical := list{stay[0], from(lt(0, 2, 1), 6), stay[2]}
	leaves(t, nil, 0)
	leaves(t, list{}, 0)
	leaves(t, ups[:1], 0)
	leaves(t, ups, 0)
	leaves(t, lows[:1], 0)
	leaves(t, lows, 0)
	leaves(t, stay[:1], 0, stay[0])
	leaves(t, stay, 0, canonical...)
	leaves(t, append(ups[:1:1], stay...), 0, canonical...)
	leaves(t, append(stay[:3:3], lows...), 0, canonical...)
	isFalse(t, list{ups[0], lows[0]}, 0)
	leaves(t, list{ups[0], lows[1]}, 0, from(lt(0, 2, 1), 0, 3))
	leaves(t, list{lows[1], ups[1]}, 0, from(lt(10, 1, 15, 2, 1), 1, 3))
	spends(t, ups, 0, 0, 0)
	spends(t, stay, 0, 3, 3)
	spends(t, append(ups[:3:3], stay...), 0, 3, 3)
}

// P24.1: what stays stands ahead, in its row; then for each upper row, in their row, each lower one, in theirs; however they stand among one another.
func TestP24_1DropRow(t *testing.T) {
	up := func(k int) row { return from(le(0, 0, 1, 10+k, 1), k) }
	low := func(k int) row { return from(lt(0, 0, -1, 20+k, 1), 10+k) }
	rest := func(k int) row { return from(le(k, 1, 1), 20+k) }
	both := func(k, n int) row { return from(lt(0, 10+k, 1, 20+n, 1), k, 10+n) }
	l := list{up(0), low(0), rest(0), low(1), up(1), rest(1), low(2), up(2), rest(2)}
	want := func(ups, lows, stay []int) list {
		out := each(len(stay), func(k int) row { return rest(stay[k]) })
		for _, k := range ups {
			for _, n := range lows {
				out = append(out, both(k, n))
			}
		}
		return out
	}
	leaves(t, l, 0, want(by(0, 1, 2), by(0, 1, 2), by(0, 1, 2))...)
	slices.Reverse(l)
	leaves(t, l, 0, want(by(2, 1, 0), by(2, 1, 0), by(2, 1, 0))...)
	leaves(t, list{up(0), up(1), low(0), low(1)}, 0, both(0, 0), both(0, 1), both(1, 0), both(1, 1))
	leaves(t, list{low(1), low(0), up(1), up(0)}, 0, both(1, 1), both(1, 0), both(0, 1), both(0, 0))
	leaves(t, list{low(0), rest(1), up(1), low(1), rest(0)}, 0, rest(1), rest(0), both(1, 0), both(1, 1))
	r := rand.New(rand.NewSource(240))
	for range 300 {
		r.Shuffle(len(l), func(j, k int) { l[j], l[k] = l[k], l[j] })
		some := l[:r.Intn(len(l)+1)]
		var ups, lows, stay []int
		for _, s := range some {
			k := s.From.List()[0]
			switch {
			case k < 10:
				ups = append(ups, k)
			case k < 20:
				lows = append(lows, k-10)
			default:
				stay = append(stay, k-20)
			}
		}
		leaves(t, some, 0, want(ups, lows, stay)...)
	}
}

// P24.1: rows that come to be the same: by atom and set, and by the atom alone; such as stay, such as are made, one of each.
func TestP24_1DropSame(t *testing.T) {
	y := func(numbers ...int) row { return from(le(0, 1, 1), numbers...) }
	twice := func(numbers ...int) row { return from(le(0, 1, 2), numbers...) }
	// They stay.
	leaves(t, list{y(0), y(0)}, 0, y(0))
	leaves(t, list{y(0), y(1), y(0), twice(1), twice(2)}, 0, y(0), y(1), y(2))
	leaves(t, list{twice(0, 70), from(lt(0, 1, 1), 0), y(0, 70), y(70)}, 0, y(0, 70), from(lt(0, 1, 1), 0), y(70))
	// They are made.
	up, low := from(le(0, 0, 1, 1, 1), 0), from(le(0, 0, -1), 1)
	leaves(t, list{up, up, low}, 0, y(0, 1))
	leaves(t, list{up, low, low, up}, 0, y(0, 1))
	spends(t, list{up, low, low, up}, 0, 4, 4)
	leaves(t, list{up, from(le(0, 0, 2, 1, 2), 0), low, from(le(0, 0, -3), 1)}, 0, y(0, 1))
	leaves(t, list{up, from(le(0, 0, 2, 1, 2), 2), low, from(le(0, 0, -3), 1)}, 0, y(0, 1), y(1, 2))
	leaves(t, list{up, low, from(le(0, 0, -3), 0), from(le(0, 0, -3), 0, 1)}, 0, y(0, 1), y(0))
	leaves(t, list{from(le(0, 0, 1), 5), from(le(0, 0, 1, 1, 1), 6), from(le(0, 0, -1), 6), from(le(0, 0, -1, 1, 1), 5)}, 0, y(5), y(6), y(5, 6))
	// One stays, and one is made: what stays stands ahead.
	leaves(t, list{up, low, y(0, 1)}, 0, y(0, 1))
	leaves(t, list{up, low, y(0), from(le(7, 2, 1), 3), twice(0, 1), y(1)}, 0, y(0), from(le(7, 2, 1), 3), y(0, 1), y(1))
	leaves(t, list{up, low, y(0)}, 0, y(0), y(0, 1))
	spends(t, list{up, low, y(0, 1)}, 0, 2, 1)
}

// P24.1: rows that are true, or false, that stay, and that are made, first, in the midst, and last.
func TestP24_1DropTruth(t *testing.T) {
	p, q := from(le(0, 1, 1), 0), from(lt(3, 2, 1), 1)
	up, low := from(lt(0, 0, 1, 3, 1), 2), from(le(0, 0, -1, 4, 1), 3)
	both := from(lt(0, 3, 1, 4, 1), 2, 3)
	for _, a := range []api.Atom{le(0), le(-1), lt(-1), eq(0)} {
		r := from(a, 4)
		leaves(t, list{r}, 0)
		for _, l := range []list{{r, p, up, low, q}, {p, up, r, low, q}, {p, q, up, low, r}, {r, r, up, p, r, q, low, r}} {
			leaves(t, l, 0, p, q, both)
			spends(t, l, 0, 3, 3)
		}
	}
	for _, a := range []api.Atom{le(1), lt(0), lt(5), eq(1), eq(-1)} {
		r := from(a, 4)
		isFalse(t, list{r}, 0)
		spends(t, list{r}, 0, 0, 0)
		for _, l := range []list{{r, p, up, low, q}, {p, up, r, low, q}, {p, q, up, low, r}, {r, r, up, p, r, q, low, from(le(0), 3)}} {
			isFalse(t, l, 0)
			// What is false makes nothing needless: all that is Open is paid, and how many pairs there are is told.
			spends(t, l, 0, 3, 1)
		}
	}
	// Bounds that agree make what is true, such as do not what is false.
	true1, true2 := list{from(le(-3, 0, 1), 5), from(le(2, 0, -1), 6)}, list{from(le(-6, 0, 2), 5), from(le(3, 0, -1), 6)}
	false1, false2 := list{from(le(-3, 0, 1), 5), from(lt(3, 0, -1), 6)}, list{from(le(-3, 0, 1), 5), from(le(7, 0, -2), 6)}
	leaves(t, true1, 0)
	leaves(t, true2, 0)
	spends(t, true2, 0, 0, 1)
	isFalse(t, false1, 0)
	isFalse(t, false2, 0)
	spends(t, false2, 0, 0, 1)
	// The pair that is settled is the first one, one in the midst, the last one.
	a, b := from(le(0, 0, 1, 7, 1), 7), from(le(0, 0, -1, 8, 1), 8)
	ab := from(le(0, 7, 1, 8, 1), 7, 8)
	second := func(k int) row { return from(le([]int{-3, 2}[k], 8-k, 1), []int{5, 6}[k], []int{8, 7}[k]) }
	leaves(t, list{true1[0], a, true1[1], b, p}, 0, p, second(0), second(1), ab)
	leaves(t, list{a, true1[0], b, true1[1], p}, 0, p, ab, second(1), second(0))
	leaves(t, list{a, p, true1[0], true1[1], b}, 0, p, second(1), ab, second(0))
	for _, l := range []list{{false1[0], a, false1[1], b, p}, {a, false1[0], b, false1[1], p}, {a, p, false2[0], false2[1], b}, append(slices.Clone(true1), false1...)} {
		isFalse(t, l, 0)
	}
	spends(t, list{a, p, false2[0], false2[1], b}, 0, 4, 4)
}

// P24.1: equations that have the variable not, and rows that are not canonical, before and behind.
func TestP24_1DropKinds(t *testing.T) {
	leaves(t, list{from(eq(-4, 1, -2), 0), from(eq(-3, 1, 2, 2, 5), 1), from(le(0, 0, 1), 2)}, 0, from(eq(2, 1, 1), 0), from(eq(-3, 1, 2, 2, 5), 1))
	leaves(t, list{from(eq(0, 1, 1, 2, 1), 0), from(le(0, 0, 1), 2), from(le(0, 0, -1, 1, 1), 3)}, 0, from(eq(0, 1, 1, 2, 1), 0), from(le(0, 1, 1), 2, 3))
	leaves(t, of(eq(6, 1, 4), le(6, 1, -4), lt(9, 3, 6)), 2, from(eq(3, 1, 2), 0), from(le(3, 1, -2), 1), from(lt(3, 3, 2), 2))
	// What is made of such as have a divisor, and what is not canonical though it is made of such as are.
	leaves(t, list{from(le(0, 0, 6, 1, 9), 0), from(lt(10, 0, -4), 1)}, 0, from(lt(5, 1, 3), 0, 1))
	leaves(t, list{from(le(1, 0, 2, 1, 3), 0), from(lt(1, 0, -4, 1, 2), 1)}, 0, from(lt(3, 1, 8), 0, 1))
	leaves(t, list{from(le(0, 0, 2, 1, 3, 2, 5), 0), from(le(0, 0, -2, 1, 3, 2, 1), 1)}, 0, from(le(0, 1, 1, 2, 1), 0, 1))
	leaves(t, list{from(le(5, 0, 1, 1, -1), 0), from(lt(-1, 0, -1, 1, -1), 1)}, 0, from(lt(2, 1, -1), 0, 1))
	// Each variable of rows may go.
	l := list{from(le(2, 0, 1, 3, -2, lastVar, 3), 0), from(lt(-1, 0, -2, 3, 1), 1), from(le(0, 3, 1, lastVar, -1), 2), from(lt(0, 0, 1, lastVar, -5), 3)}
	leaves(t, l, 0, l[2], from(lt(1, 3, -1, lastVar, 2), 0, 1), from(lt(-1, 3, 1, lastVar, -10), 1, 3))
	leaves(t, l, 3, l[3], from(lt(0, 0, -1, lastVar, 1), 0, 1), from(le(2, 0, 1, lastVar, 1), 0, 2))
	leaves(t, l, lastVar, l[1], from(le(2, 0, 1, 3, 1), 0, 2), from(lt(5, 0, 4, 3, -5), 0, 3))
	// What no row has changes nothing but that they are put together.
	for _, v := range append(notVars(), 1, 2, 4, lastVar-1) {
		leaves(t, l, v, l...)
		leaves(t, append(l, l[1], from(le(0), 9), from(lt(-4, 0, 1, lastVar, -5), 3)), v, append(l, from(lt(-4, 0, 1, lastVar, -5), 3))...)
		leaves(t, nil, v)
		isFalse(t, append(l, from(lt(0), 9)), v)
		leaves(t, of(eq(0, 0, 1)), v, of(eq(0, 0, 1))...)
	}
}

// refuses complains unless Drop tells an error, and nothing beside it.
func refuses(t *testing.T, want api.Errno, l list, v int, m *budget.Meter, what ...any) {
	t.Helper()
	got := drop(l, v, m)
	alike(t, got, result{e: want, spent: m.Spent()}, append([]any{"Drop: "}, what...)...)
}

// TestErrors holds each row of the table against the rows behind it, with what is wrong first, in the midst, and last.
func TestErrors(t *testing.T) {
	good := list{from(le(0, 0, 1), 0), from(lt(-1, 0, -1), 1), from(eq(0, 1, 1), 2), from(le(0), 3)}
	var wrong []list
	equations := list{from(eq(0, 0, 1), 4), from(eq(0, 0, -1), 4), from(eq(3, 0, 2, 1, 1), 4), from(eq(3, 0, -2, lastVar, 1), 4)}
	for _, r := range slices.Concat(wrongRows(), equations) {
		wrong = append(wrong, list{r})
		for k := range len(good) + 1 {
			wrong = append(wrong, slices.Insert(slices.Clone(good), k, r))
		}
	}
	for k, l := range wrong {
		refuses(t, api.ErrNil, l, 0, nil, "no meter, and wrong list ", k)
		refuses(t, api.ErrForm, l, 0, widest(), "wrong list ", k)
		for n, m := range usedUp() {
			was := m.Spent()
			refuses(t, api.ErrForm, l, 0, m, "wrong list ", k, " and meter ", n)
			equal(t, m.Spent(), was, "nothing is spent for what is wrong")
		}
		m := metered(api.Budget{})
		refuses(t, api.ErrForm, l, 0, m, "wrong list ", k, ", and nothing to spend")
		equal(t, m.Why() == nil, true, "no budget is used up by what is wrong")
	}
	for _, l := range []list{nil, {}, good, good[:1], good[2:], good[3:]} {
		refuses(t, api.ErrNil, l, 0, nil, "no meter, ", l)
		for n, m := range usedUp() {
			// Also where there is nothing to be paid.
			refuses(t, api.ErrBudget, l, 0, m, "meter ", n, ", ", l)
		}
	}
	// An equation that has the variable is none that has another one; what may not be, may not be by any variable.
	for _, r := range equations {
		for _, v := range append(notVars(), 2, 5) {
			leaves(t, append(good[:1:1], r), v, modelPut([]fact{factOf(good[0]), factOf(r)}).out...)
		}
	}
	for k, r := range wrongRows() {
		for _, v := range append(notVars(), 1, lastVar) {
			refuses(t, api.ErrForm, append(good[:2:2], r), v, widest(), "wrong row ", k, " by ", v)
		}
	}
}

// P24.2: 0, where that is a value, in whatever rows.
func TestP24_2Zero(t *testing.T) {
	zero := rat.Int(0)
	between(t, nil, 0, nil, zero)
	between(t, list{}, lastVar, at(1, 2), zero)
	for _, l := range []list{
		of(le(0, 0, 1)), of(le(0, 0, -1)), of(eq(0, 0, 3)), of(lt(-1, 0, 1)), of(lt(-1, 0, -1)), of(lt(-1, 0, 1), lt(-1, 0, -5)),
		of(le(0, 0, 1), le(0, 0, -1)), of(eq(0, 0, -1), le(0, 0, 7), le(-3, 0, -1)), of(le(-100, 0, -1), le(0, 0, 9)), of(le(0), lt(-1), eq(0), le(-5, 0, 1)),
		of(le(3, 0, 1, 1, 1), lt(2, 0, -4, 1, 1), eq(6, 0, 7, 1, 2)),
	} {
		for range 2 {
			between(t, l, 0, at(99, -3), zero)
			between(t, l, 0, at(0, -3, 5, 7), zero)
			slices.Reverse(l)
		}
	}
	// Not just at the end of what is strict.
	between(t, of(lt(0, 0, 1)), 0, nil, rat.Int(-1))
	between(t, of(lt(0, 0, -1)), 0, nil, rat.Int(1))
	notBetween(t, of(lt(0, 0, 1), le(0, 0, -1)), 0, nil)
	notBetween(t, of(eq(0, 0, 1), lt(0, 0, 1)), 0, nil)
}

// P24.2: by equations, where 0 is none.
func TestP24_2Equations(t *testing.T) {
	two, half := eq(-2, 0, 1), eq(1, 0, -2)
	between(t, of(two), 0, nil, rat.Int(2))
	between(t, of(half), 0, nil, in(1, 2))
	between(t, of(eq(3, 0, 2)), 0, nil, in(-3, 2))
	between(t, of(eq(3, 1, 4, 2, 6, 3, 1)), 2, []api.Rat{rat.Int(9), in(1, 2), rat.Int(100), rat.Int(7)}, rat.Int(-2))
	between(t, of(eq(3, 1, 4, 2, 6)), 1, at(9, 9, 1), in(-9, 4))
	// Bounds that allow its value, and that do not, ahead of it and behind.
	for _, a := range []api.Atom{le(-2, 0, 1), le(2, 0, -1), le(-9, 0, 4), le(7, 0, -4), lt(-5, 0, 2), lt(3, 0, -2), eq(-4, 0, 2), eq(6, 0, -3), le(0), eq(0), le(-1, 1, 1)} {
		between(t, of(two, a), 0, at(5, 1), rat.Int(2))
		between(t, of(a, two), 0, at(5, 1), rat.Int(2))
		between(t, of(le(-100, 0, 1), a, two, a, lt(-100, 0, -1)), 0, at(5, 1), rat.Int(2))
	}
	for _, a := range []api.Atom{le(-1, 0, 1), le(3, 0, -1), lt(-2, 0, 1), lt(2, 0, -1), lt(-4, 0, 2), le(-7, 0, 4), eq(-3, 0, 1), eq(-3, 0, 2), eq(0, 0, 1), half, le(1), lt(0), eq(1), le(0, 1, 1), eq(0, 1, 1)} {
		for range 2 {
			notBetween(t, of(two, a), 0, at(5, 1))
			notBetween(t, of(a, two), 0, at(5, 1))
			notBetween(t, of(le(-100, 0, 1), a, two, lt(-100, 0, -1), two), 0, at(5, 1))
			notBetween(t, of(two, le(-100, 0, 1), two, a, two), 0, at(2, 1))
		}
	}
	// Two agree by the others' values alone.
	l := of(eq(0, 0, 1, 1, -1), eq(-6, 0, 1, 1, 2), le(-9, 0, 1))
	between(t, l, 0, at(0, 2), rat.Int(2))
	notBetween(t, l, 0, at(2, 1))
	notBetween(t, l, 0, nil)
}

// P24.2: from below alone, from above alone, from both.
func TestP24_2Bounds(t *testing.T) {
	// The greatest lower bound and 1.
	between(t, of(le(3, 0, -1)), 0, nil, rat.Int(4))
	between(t, of(lt(3, 0, -2)), 0, nil, in(5, 2))
	between(t, of(lt(0, 0, -1)), 0, nil, rat.Int(1))
	for range 2 {
		l := of(le(3, 0, -1), lt(13, 0, -4), le(-7, 0, -1), le(3, 0, -1))
		for range 4 {
			l = append(l[1:], l[0])
			between(t, l, 0, nil, in(17, 4))
		}
		slices.Reverse(l)
	}
	// The least upper one less 1.
	between(t, of(le(3, 0, 1)), 0, nil, rat.Int(-4))
	between(t, of(lt(3, 0, 2)), 0, nil, in(-5, 2))
	between(t, of(lt(0, 0, 1)), 0, nil, rat.Int(-1))
	for range 2 {
		l := of(le(3, 0, 1), lt(13, 0, 4), le(-7, 0, 1), le(3, 0, 1))
		for range 4 {
			l = append(l[1:], l[0])
			between(t, l, 0, nil, in(-17, 4))
		}
		slices.Reverse(l)
	}
	// Half of the sum of both.
	between(t, of(le(1, 0, -1), le(-4, 0, 1)), 0, nil, in(5, 2))
	between(t, of(lt(1, 0, -3), lt(-1, 0, 2)), 0, nil, in(5, 12))
	between(t, of(le(-5, 0, -1), le(2, 0, 1)), 0, nil, in(-7, 2))
	between(t, of(lt(0, 0, -7), le(-1, 0, 7)), 0, nil, in(1, 14))
	between(t, of(lt(0, 0, 1), lt(-6, 0, -1)), 0, nil, rat.Int(-3))
	l := of(le(1, 0, -1), le(-4, 0, 1), lt(2, 0, -1), lt(-10, 0, 3), le(-11, 0, -1), le(2, 0, -1), le(-10, 0, 3))
	r := rand.New(rand.NewSource(241))
	for range 200 {
		r.Shuffle(len(l), func(j, k int) { l[j], l[k] = l[k], l[j] })
		between(t, l, 0, nil, in(8, 3))
	}
	// Both are the same number: with Le alone, and with a Lt, by the very bound, or by another one beside it.
	between(t, of(le(3, 0, -1), le(-3, 0, 1)), 0, nil, rat.Int(3))
	between(t, of(le(1, 0, -2), le(-3, 0, 6), le(1, 0, -2)), 0, nil, in(1, 2))
	for _, a := range []api.Atom{lt(3, 0, -1), lt(-3, 0, 1), lt(6, 0, -2), lt(-9, 0, 3)} {
		l := of(le(3, 0, -1), le(-3, 0, 1), a, lt(-5, 0, 1))
		for range 24 {
			r.Shuffle(len(l), func(j, k int) { l[j], l[k] = l[k], l[j] })
			notBetween(t, l, 0, nil)
		}
	}
	// The greatest lower bound is above the least upper one.
	notBetween(t, of(le(4, 0, -1), le(-3, 0, 1)), 0, nil)
	notBetween(t, of(le(-3, 0, 1), le(4, 0, -1)), 0, nil)
	notBetween(t, of(lt(7, 0, -1), lt(7, 0, 1)), 0, nil)
	notBetween(t, of(le(3, 0, -1), le(1, 0, -9), le(-4, 0, 1), lt(5, 0, -1)), 0, nil)
	notBetween(t, of(le(5, 0, -14), le(-6, 0, 17)), 0, nil)
}

// P24.2: by the others' values: none, few, more than there are variables, such as may not be, and one for the variable itself.
func TestP24_2Values(t *testing.T) {
	// x is at least y and at most z less 2.
	l := of(le(0, 0, -1, 1, 1), le(2, 0, 1, 3, -1))
	between(t, l, 0, at(0, 3, 0, 7), rat.Int(4))
	between(t, l, 0, at(100, 3, 8, 7, 9, 9, 9, 9), rat.Int(4))
	between(t, l, 0, []api.Rat{{}, in(1, 2), in(1, 3), rat.Int(4), {}}, in(5, 4))
	between(t, l, 0, at(0, -8), rat.Int(-5))
	notBetween(t, l, 0, nil)
	notBetween(t, l, 0, at(9))
	notBetween(t, l, 0, at(9, -1))
	between(t, l, 0, at(9, -2), rat.Int(-2))
	// By y it is bounded from above alone, by z from below.
	between(t, l, 1, at(-3, 5, 0, 1), rat.Int(-4))
	between(t, l, 3, at(-1, -1, 0, 77), rat.Int(2))
	notBetween(t, l, 1, at(-1, 5))
	notBetween(t, l, 3, at(-1, 7))
	// What may not be is 0.
	for _, x := range []api.Rat{{}, {Num: whole.Of(3)}, {Num: whole.Of(2), Den: whole.Of(4)}, {Num: whole.Of(1), Den: whole.Of(-1)}, {Num: wrongInts()[2], Den: whole.Of(1)}, {Num: whole.Of(1), Den: wrongInts()[2]}, {Num: api.Int{Neg: true}, Den: whole.Of(1)}} {
		between(t, l, 0, []api.Rat{x, x, x, rat.Int(7)}, rat.Int(0))
		between(t, l, 0, []api.Rat{x, rat.Int(-8), x, x}, rat.Int(-5))
		between(t, of(eq(3, 0, 1, 1, 1)), 0, []api.Rat{x, x}, rat.Int(-3))
	}
	// Rows of side 0: true, or false.
	for _, a := range []api.Atom{le(-3, 1, 1), lt(-4, 1, 1), eq(-3, 1, 1), le(0), eq(0), lt(-1, 2, 9), eq(4, 1, 1, 3, -1)} {
		between(t, append(l, from(a, 9)), 0, at(0, 3, 0, 7), rat.Int(4))
		between(t, append(of(a), l...), 0, at(0, 3, 0, 7), rat.Int(4))
		between(t, of(a), 0, at(0, 3, 0, 7), rat.Int(0))
	}
	for _, a := range []api.Atom{le(-2, 1, 1), lt(-3, 1, 1), eq(3, 1, 1), le(1), eq(1), lt(0), lt(0, 2, 9), eq(3, 1, 1, 3, -1)} {
		notBetween(t, append(l, from(a, 9)), 0, at(0, 3, 0, 7))
		notBetween(t, append(of(a), l...), 0, at(0, 3, 0, 7))
		notBetween(t, of(a), 0, at(0, 3, 0, 7))
		notBetween(t, of(a, le(0, 0, 1)), 0, at(0, 3, 0, 7))
	}
}

// P24.2: rows, and variables, that may not be.
func TestP24_2Wrong(t *testing.T) {
	good := list{from(le(0, 0, 1), 0), from(lt(-1, 1, -1), 1), from(eq(0, 1, 1), 2), from(le(0), 3)}
	for _, v := range notVars() {
		notBetween(t, nil, v, nil)
		notBetween(t, good, v, at(1, 2))
	}
	for _, v := range by(0, 1, 2, lastVar-1, lastVar) {
		between(t, nil, v, nil, rat.Int(0))
		between(t, good, v, nil, rat.Int(0))
		between(t, list{from(le(5, v, -2), 7)}, v, at(4), in(7, 2))
		between(t, list{from(le(5, v, 2), 7)}, v, nil, in(-7, 2))
		between(t, list{from(eq(5, v, 2), 7)}, v, nil, in(-5, 2))
	}
	for _, w := range wrongRows() {
		for _, v := range append(notVars(), 0, 1, 7, lastVar) {
			notBetween(t, list{w}, v, nil)
			for k := range len(good) + 1 {
				notBetween(t, slices.Insert(slices.Clone(good), k, w), v, nil)
			}
		}
	}
}
