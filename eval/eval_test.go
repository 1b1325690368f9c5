package eval_test

import (
	"fmt"
	"maps"
	"math"
	"math/big"
	"math/rand"
	"slices"
	"testing"

	"alidade/api"
	"alidade/atom"
	"alidade/eval"
	"alidade/logic"
	"alidade/rat"
	"alidade/whole"
)

const (
	mostVars = 1 << 20
	lastVar  = mostVars - 1
	mostLong = 1 << 16
	full     = math.MaxUint32
)

// formula is written often.
type formula = api.Formula

// of is the quotient of two numbers.
func of(num, den int) api.Rat {
	x, e := rat.Make(whole.Of(num), whole.Of(den))
	if e != api.OK {
		panic("no quotient")
	}
	return x
}

// ints are whole numbers, as values.
func ints(l ...int) []api.Rat {
	var values []api.Rat
	for _, n := range l {
		values = append(values, rat.Int(n))
	}
	return values
}

// linear is the term of a number, and of variables, each with its Coef behind it; they have to rise.
func linear(add int, l ...int) api.Term {
	t := api.Term{Add: whole.Of(add)}
	for ; len(l) > 0; l = l[2:] {
		t.Parts = append(t.Parts, api.Part{Var: l[0], Coef: whole.Of(l[1])})
	}
	return t
}

// leaf is an atom as a formula, made by hand.
func leaf(a api.Atom) formula { return formula{Op: api.Is, Atom: a} }

// le, lt, eq, div are atoms of linear terms, as formulas.
func le(add int, l ...int) formula { return leaf(api.Atom{Kind: api.Le, Term: linear(add, l...)}) }
func lt(add int, l ...int) formula { return leaf(api.Atom{Kind: api.Lt, Term: linear(add, l...)}) }
func eq(add int, l ...int) formula { return leaf(api.Atom{Kind: api.Eq, Term: linear(add, l...)}) }
func div(mod, add int, l ...int) formula {
	return leaf(api.Atom{Kind: api.Div, Term: linear(add, l...), Mod: whole.Of(mod)})
}

// is says of a variable that it is a number; same of two that they are the same.
func is(v, n int) formula   { return eq(-n, v, 1) }
func same(v, w int) formula { return eq(0, v, 1, w, -1) }

// These are made by hand, of whatever stands within.
func yes() formula                       { return formula{Op: api.True} }
func no() formula                        { return formula{Op: api.False} }
func not(f formula) formula              { return formula{Op: api.Not, Kids: []formula{f}} }
func and(l ...formula) formula           { return formula{Op: api.And, Kids: l} }
func or(l ...formula) formula            { return formula{Op: api.Or, Kids: l} }
func exists(f formula, l ...int) formula { return bind(api.Exists, l, f) }
func forall(f formula, l ...int) formula { return bind(api.Forall, l, f) }
func bind(op uint8, l []int, f formula) formula {
	return formula{Op: op, Vars: l, Kids: []formula{f}}
}

// denied is a formula within so many Nots.
func denied(f formula, times int) formula {
	for range times {
		f = not(f)
	}
	return f
}

// spell is a formula whose text is made only when it is told.
type spell formula

// String tells all that it has, or how it begins and ends.
func (f spell) String() string {
	s := fmt.Sprint(formula(f))
	if len(s) > 400 {
		s = s[:200] + " .. " + s[len(s)-200:]
	}
	return s
}

// equal complains unless something is what is wanted.
func equal[T comparable](t *testing.T, got, want T, what ...any) {
	t.Helper()
	if got != want {
		t.Errorf("%s: got %v, want %v", fmt.Sprint(what...), got, want)
	}
}

// asked is what a call answers that is to be no error.
func asked[T any](t *testing.T, got T, e api.Errno) T {
	t.Helper()
	if e != api.OK {
		t.Error("refused:", e)
	}
	return got
}

// truth, over, count are what calls answer, that are to be no errors.
func truth(t *testing.T, in uint8, f formula, values []api.Rat) bool {
	t.Helper()
	got, e := eval.Truth(in, f, values)
	return asked(t, got, e)
}

func over(t *testing.T, in uint8, f formula, values, domain []api.Rat) bool {
	t.Helper()
	got, e := eval.Over(in, f, values, domain)
	return asked(t, got, e)
}

func count(t *testing.T, in uint8, f formula, vars []int, domain []api.Rat) int {
	t.Helper()
	got, e := eval.Count(in, f, vars, domain)
	return asked(t, got, e)
}

// A model goes by the words: each choice has a map of its own, and numbers are those of math/big.

// choice is what variables stand for.
type choice = map[int]*big.Rat

// value is a quotient as math/big has it.
func value(x api.Rat) *big.Rat { return new(big.Rat).SetFrac(number(x.Num), number(x.Den)) }

// number is a whole number as math/big has it.
func number(x api.Int) *big.Int {
	v := new(big.Int)
	for _, w := range slices.Backward(x.Limbs) {
		v.Or(v.Lsh(v, 32), new(big.Int).SetUint64(uint64(w)))
	}
	if x.Neg {
		v.Neg(v)
	}
	return v
}

// modelAtom is whether an atom is true, as S2 says.
func modelAtom(a api.Atom, c choice) bool {
	x := new(big.Rat).SetInt(number(a.Term.Add))
	for _, p := range a.Term.Parts {
		if y := c[p.Var]; y != nil {
			x.Add(x, new(big.Rat).Mul(y, new(big.Rat).SetInt(number(p.Coef))))
		}
	}
	switch a.Kind {
	case api.Le:
		return x.Sign() <= 0
	case api.Lt:
		return x.Sign() < 0
	case api.Eq:
		return x.Sign() == 0
	}
	return x.Quo(x, new(big.Rat).SetInt(number(a.Mod))).IsInt()
}

// choices are all of them for some variables, beside what others stand for.
func choices(vars []int, c choice, domain []api.Rat) []choice {
	l := []choice{c}
	for _, v := range vars {
		var longer []choice
		for _, c := range l {
			for _, x := range domain {
				d := maps.Clone(c)
				d[v] = value(x)
				longer = append(longer, d)
			}
		}
		l = longer
	}
	return l
}

// model is whether a formula is true, by S3.
func model(f formula, c choice, domain []api.Rat) bool {
	isTrue := func(g formula) bool { return model(g, c, domain) }
	isFalse := func(g formula) bool { return !model(g, c, domain) }
	switch f.Op {
	case api.True:
		return true
	case api.Is:
		return modelAtom(f.Atom, c)
	case api.Not:
		return isFalse(f.Kids[0])
	case api.And:
		return !slices.ContainsFunc(f.Kids, isFalse)
	case api.Or:
		return slices.ContainsFunc(f.Kids, isTrue)
	case api.Exists:
		return modelCount(f.Kids[0], f.Vars, c, domain) > 0
	case api.Forall:
		return modelCount(f.Kids[0], f.Vars, c, domain) == len(choices(f.Vars, c, domain))
	}
	return false
}

// modelCount is by how many choices for some variables it is.
func modelCount(f formula, vars []int, c choice, domain []api.Rat) int {
	n := 0
	for _, d := range choices(vars, c, domain) {
		if model(f, d, domain) {
			n++
		}
	}
	return n
}

// listed is the choice that a list of values is.
func listed(values []api.Rat) choice {
	c := choice{}
	for v, x := range values {
		c[v] = value(x)
	}
	return c
}

// pick is one of a list.
func pick[T any](r *rand.Rand, l []T) T { return l[r.Intn(len(l))] }

// madeAtom is an atom of a few variables, that may be in a logic.
func madeAtom(r *rand.Rand, in uint8) api.Atom {
	a := api.Atom{Kind: uint8(r.Intn(3)), Term: api.Term{Add: whole.Of(r.Intn(5) - 2)}}
	if in == api.Whole && r.Intn(3) == 0 {
		a.Kind, a.Mod = api.Div, whole.Of(1+r.Intn(4))
	}
	for v := range 4 {
		if coef := r.Intn(9) - 4; coef != 0 && r.Intn(2) == 0 {
			a.Term.Parts = append(a.Term.Parts, api.Part{Var: v, Coef: whole.Of(coef)})
		}
	}
	return a
}

// made is a formula of a few variables, free and bound, no deeper than that, of Ops below one.
func made(r *rand.Rand, in uint8, deep, ops int) formula {
	op := uint8(r.Intn(ops))
	if deep == 1 && op > api.Is {
		op = api.Is
	}
	f := formula{Op: op}
	kids := 1
	switch op {
	case api.True, api.False:
		kids = 0
	case api.Is:
		f.Atom, kids = madeAtom(r, in), 0
	case api.And, api.Or:
		kids = r.Intn(4)
	case api.Exists, api.Forall:
		f.Vars = r.Perm(5)[:1+r.Intn(2)]
	}
	for range kids {
		f.Kids = append(f.Kids, made(r, in, deep-1, ops))
	}
	return f
}

// plain, every are the ends of the Ops of which formulas are made.
const (
	plain = int(api.Exists)
	every = int(api.Forall) + 1
)

// madeValues are some values of a logic.
func madeValues(r *rand.Rand, in uint8, many int) []api.Rat {
	var l []api.Rat
	for range many {
		den := 1
		if in == api.Real {
			den = 1 + r.Intn(3)
		}
		l = append(l, of(r.Intn(9)-4, den))
	}
	return l
}

// some hands formulas of a logic, of a fixed seed, to a test: with quantifiers, and with values, and a domain.
func some(in uint8, seed int64, many int, test func(r *rand.Rand, f formula, values, domain []api.Rat)) {
	r := rand.New(rand.NewSource(seed))
	for range many {
		f := made(r, in, 1+r.Intn(6), every)
		test(r, f, madeValues(r, in, r.Intn(6)), madeValues(r, in, 1+r.Intn(3)))
	}
}

// logics are both.
func logics() []uint8 { return []uint8{api.Real, api.Whole} }

// TestExamples are those of the chapter.
func TestExamples(t *testing.T) {
	x := le(0, 0, 1)
	equal(t, truth(t, api.Real, x, []api.Rat{of(1, 2)}), false, "x <= 0 by 1/2")
	equal(t, truth(t, api.Real, x, ints(-1)), true, "x <= 0 by -1")
	half := exists(eq(-1, 0, 2), 0)
	equal(t, over(t, api.Real, half, nil, []api.Rat{of(0, 1), of(1, 1), of(1, 2)}), true, "2x - 1 = 0 by 0, 1, 1/2")
	equal(t, over(t, api.Real, half, nil, ints(0, 1)), false, "2x - 1 = 0 by 0, 1")
	equal(t, over(t, api.Real, forall(or(is(0, 0), is(0, 1)), 0), nil, ints(0, 1)), true, "x = 0 or x - 1 = 0 by 0, 1")
	equal(t, count(t, api.Real, same(0, 1), []int{0, 1}, ints(0, 1, 2)), 3, "x - y = 0 by 0, 1, 2")
}

// P16.1, S2: an atom of each kind, where its term is just 0, and next to it.
func TestP16_1Kinds(t *testing.T) {
	for k, c := range []struct {
		f       formula
		values  []api.Rat
		in      uint8
		isWhole bool
		want    bool
	}{
		{f: le(-3, 0, 1), values: ints(3), isWhole: true, want: true},
		{f: le(-3, 0, 1), values: ints(4), isWhole: true},
		{f: le(-3, 0, 1), values: ints(2), isWhole: true, want: true},
		{f: lt(-3, 0, 1), values: ints(3), isWhole: true},
		{f: lt(-3, 0, 1), values: ints(4), isWhole: true},
		{f: lt(-3, 0, 1), values: ints(2), isWhole: true, want: true},
		{f: eq(-3, 0, 1), values: ints(3), isWhole: true, want: true},
		{f: eq(-3, 0, 1), values: ints(4), isWhole: true},
		{f: eq(-3, 0, 1), values: ints(2), isWhole: true},
		{f: le(-1, 0, 2), values: []api.Rat{of(1, 2)}, want: true},
		{f: le(-1, 0, 2), values: []api.Rat{of(500001, 1000000)}},
		{f: le(-1, 0, 2), values: []api.Rat{of(499999, 1000000)}, want: true},
		{f: lt(-1, 0, 2), values: []api.Rat{of(1, 2)}},
		{f: lt(-1, 0, 2), values: []api.Rat{of(500001, 1000000)}},
		{f: lt(-1, 0, 2), values: []api.Rat{of(499999, 1000000)}, want: true},
		{f: eq(-1, 0, 2), values: []api.Rat{of(1, 2)}, want: true},
		{f: eq(-1, 0, 2), values: []api.Rat{of(500001, 1000000)}},
		{f: eq(-1, 0, 2), values: []api.Rat{of(499999, 1000000)}},
		{f: eq(0, 0, 2, 1, 3), values: []api.Rat{of(1, 2), of(-1, 3)}, want: true},
	} {
		equal(t, truth(t, api.Real, c.f, c.values), c.want, "Real, case ", k)
		equal(t, over(t, api.Real, c.f, c.values, ints(7)), c.want, "Real, by a domain, case ", k)
		if c.isWhole {
			equal(t, truth(t, api.Whole, c.f, c.values), c.want, "Whole, case ", k)
		}
	}
	for n := -7; n < 8; n++ {
		equal(t, truth(t, api.Whole, div(3, 0, 0, 1), ints(n)), n%3 == 0, "3 divides ", n)
		equal(t, truth(t, api.Whole, div(3, 1, 0, 2), ints(n)), (2*n+1)%3 == 0, "3 divides twice ", n, ", and 1")
		equal(t, truth(t, api.Whole, div(1, 1, 0, 2), ints(n)), true, "1 divides twice ", n, ", and 1")
		equal(t, truth(t, api.Whole, div(5, n), nil), n%5 == 0, "5 divides the number ", n)
		for _, in := range logics() {
			equal(t, truth(t, in, le(n), nil), n <= 0, n, " is 0, or less")
			equal(t, truth(t, in, lt(n), nil), n < 0, n, " is less than 0")
			equal(t, truth(t, in, eq(n), nil), n == 0, n, " is 0")
		}
	}
}

// P16.1, S3: each Op, with no kids where it may have none.
func TestP16_1Ops(t *testing.T) {
	no, yes := no(), yes()
	for k, c := range []struct {
		f    formula
		want bool
	}{
		{yes, true}, {no, false}, {not(yes), false}, {not(no), true}, {denied(yes, 2), true}, {denied(no, 3), true},
		{and(), true}, {or(), false}, {not(and()), false}, {not(or()), true},
		{and(yes), true}, {and(no), false}, {or(yes), true}, {or(no), false},
		{and(yes, yes), true}, {and(yes, no), false}, {and(no, yes), false}, {and(no, no), false},
		{or(yes, yes), true}, {or(yes, no), true}, {or(no, yes), true}, {or(no, no), false},
		{and(yes, yes, no), false}, {or(no, no, yes), true}, {and(or(), yes), false}, {or(and(), no), true},
		{and(not(no), or(no, and(yes, yes))), true}, {or(not(yes), and(yes, or(no, no))), false},
		{formula{Kids: []formula{}, Vars: []int{}}, true}, {and([]formula{}...), true}, {or([]formula{}...), false},
	} {
		for _, in := range logics() {
			equal(t, truth(t, in, c.f, nil), c.want, "case ", k)
			equal(t, over(t, in, c.f, nil, ints(1)), c.want, "by a domain, case ", k)
			for _, v := range []int{0, 5, lastVar} {
				equal(t, over(t, in, exists(c.f, v), nil, ints(1, 2)), c.want, "there is, case ", k)
				equal(t, over(t, in, forall(c.f, v), nil, ints(1, 2)), c.want, "for all, case ", k)
			}
		}
	}
}

// P16.1: variables behind the end of the values are 0; values that nothing asks change nothing.
func TestP16_1Values(t *testing.T) {
	sum := eq(-2, 0, 1, 1, 1, 3, 1)
	for k, c := range []struct {
		values []api.Rat
		want   bool
	}{
		{nil, false}, {ints(), false}, {ints(2), true}, {ints(1), false}, {ints(1, 1), true}, {ints(0, 2), true}, {ints(0, 1, 77), false}, {ints(1, 1, 77), true},
		{ints(1, 0, 77, 1), true}, {ints(1, 0, 77, 2), false}, {ints(1, 0, 77, 1, 9, 9), true}, {ints(-1, 0, 0, 3, -5), true},
	} {
		for _, in := range logics() {
			equal(t, truth(t, in, sum, c.values), c.want, "case ", k)
			equal(t, over(t, in, sum, c.values, ints(1)), c.want, "by a domain, case ", k)
			equal(t, truth(t, in, and(sum, sum), c.values), c.want, "twice, case ", k)
		}
	}
	far := and(is(lastVar, 0), is(7, 1))
	equal(t, truth(t, api.Whole, far, ints(0, 0, 0, 0, 0, 0, 0, 1)), true, "the last variable")
	equal(t, truth(t, api.Whole, far, ints(0, 0, 0, 0, 0, 0, 0, 2)), false, "the last variable, and another one that is not so")
	equal(t, over(t, api.Whole, exists(is(lastVar, 5), lastVar), nil, ints(4, 5)), true, "the last variable, bound")
	equal(t, over(t, api.Whole, forall(is(lastVar, 5), lastVar), nil, ints(4, 5)), false, "the last variable, bound for all")
}

// TestAllValues hands in a value for each variable, and some more.
func TestAllValues(t *testing.T) {
	values := slices.Repeat(ints(3), mostVars)
	values[lastVar] = rat.Int(4)
	values = append(values, of(1, 2), rat.Int(9))
	equal(t, truth(t, api.Real, and(is(lastVar, 4), is(lastVar-1, 3), is(0, 3)), values), true, "all values")
	equal(t, truth(t, api.Real, is(lastVar, 3), values), false, "the last value")
	_, e := eval.Truth(api.Whole, is(lastVar, 4), values)
	equal(t, e, api.ErrArg, "a value behind all variables that is not whole")
	values[lastVar+2] = api.Rat{}
	_, e = eval.Truth(api.Real, is(lastVar, 4), values)
	equal(t, e, api.ErrArg, "a value behind all variables that may not be")
}

// P16.1, P16.2, S3: formulas of a fixed seed, held against the model.
func TestModel(t *testing.T) {
	trues, all := 0, 0
	for _, in := range logics() {
		some(in, 16, 6000, func(r *rand.Rand, f formula, values, domain []api.Rat) {
			want := model(f, listed(values), domain)
			equal(t, over(t, in, f, values, domain), want, "Over, logic ", in, ", of ", spell(f), " by ", values, " and ", domain)
			vars := r.Perm(6)[:r.Intn(4)]
			n := modelCount(f, vars, choice{}, domain)
			equal(t, count(t, in, f, vars, domain), n, "Count, logic ", in, ", of ", spell(f), " for ", vars, " by ", domain)
			f = made(r, in, 1+r.Intn(6), plain)
			equal(t, truth(t, in, f, values), model(f, listed(values), nil), "Truth, logic ", in, ", of ", spell(f), " by ", values)
			all++
			if want {
				trues++
			}
		})
	}
	if trues < all/4 || trues > all-all/4 {
		t.Error("too few kinds of formulas:", trues, "are true of", all)
	}
}

// short are all quantifiers, up to two, ahead of a few atoms of two variables, also with one beside it.
func short() []formula {
	atoms := []formula{is(0, 0), is(1, 1), same(0, 1), lt(0, 0, 1, 1, -1), le(1, 0, 1, 1, 1), eq(-1, 0, 2), yes(), no()}
	var l []formula
	for _, a := range atoms {
		for _, op := range []uint8{api.Exists, api.Forall} {
			for _, vars := range [][]int{{0}, {1}, {0, 1}, {1, 0}, {2}, {2, 0}} {
				f := bind(op, vars, a)
				l = append(l, f, not(f), bind(op, vars, not(a)))
				for _, b := range atoms[:4] {
					l = append(l, and(f, b), or(b, f))
					for _, outer := range [][]int{{0}, {1}, {1, 0}} {
						l = append(l, exists(and(f, b), outer...), forall(or(f, b), outer...), exists(and(b, f, b), outer...), forall(or(b, not(f)), outer...))
					}
				}
			}
		}
	}
	return l
}

// P16.2: short formulas, all of them, by some of a few short domains.
func TestP16_2Short(t *testing.T) {
	domains := [][]api.Rat{ints(0), ints(1), ints(0, 1), ints(1, 0), ints(2, 2), ints(1, 0, 1), ints(-1, 0, 1), {of(1, 2)}, {of(1, 2), of(-1, 2), of(1, 1)}}
	for k, f := range short() {
		// Two of the domains each: all of them meet all kinds of formulas.
		for _, domain := range [][]api.Rat{domains[k%9], domains[(k/9+k+4)%9]} {
			for _, values := range [][]api.Rat{nil, ints(1), ints(0, 1), ints(5, -5, 3)} {
				want := model(f, listed(values), domain)
				equal(t, over(t, api.Real, f, values, domain), want, "Over of ", spell(f), " by ", values, " and ", domain)
			}
			for _, vars := range [][]int{nil, {0}, {1}, {1, 0}, {0, 1, 2}} {
				want := modelCount(f, vars, choice{}, domain)
				equal(t, count(t, api.Real, f, vars, domain), want, "Count of ", spell(f), " for ", vars, " by ", domain)
			}
		}
	}
}

// P16.2: variables that are free and bound, bound twice, and bound with a value of their own.
func TestP16_2Bound(t *testing.T) {
	for k, c := range []struct {
		f      formula
		values []api.Rat
		domain []api.Rat
		want   bool
	}{
		// Free ahead of the quantifier, and behind it: there the value holds again.
		{and(is(0, 5), exists(is(0, 1), 0)), ints(5), ints(1, 2), true},
		{and(exists(is(0, 1), 0), is(0, 5)), ints(5), ints(1, 2), true},
		{and(exists(is(0, 1), 0), is(0, 1)), ints(5), ints(1, 2), false},
		{and(exists(is(0, 2), 0), is(0, 2)), ints(5), ints(1, 2), false},
		{and(not(exists(is(0, 3), 0)), is(0, 5)), ints(5), ints(1, 2), true},
		{and(forall(or(is(0, 1), is(0, 2)), 0), is(0, 5)), ints(5), ints(1, 2), true},
		{and(not(forall(is(0, 1), 0)), is(0, 5)), ints(5), ints(1, 2), true},
		{or(exists(is(0, 3), 0), is(0, 5)), ints(5), ints(1, 2), true},
		// Free, without a value: 0 holds again.
		{and(exists(is(0, 1), 0), is(0, 0)), nil, ints(1, 2), true},
		{and(exists(is(0, 1), 0), is(0, 1)), nil, ints(1, 2), false},
		{and(exists(is(3, 2), 3), is(3, 0)), ints(7), ints(1, 2), true},
		// Bound twice, one beside the other.
		{and(exists(is(0, 1), 0), exists(is(0, 2), 0)), nil, ints(1, 2), true},
		{and(exists(is(0, 1), 0), forall(is(0, 1), 0)), nil, ints(1, 2), false},
		{and(forall(lt(-3, 0, 1), 0), exists(is(0, 2), 0)), nil, ints(1, 2), true},
		// Bound twice, one within the other: the outer choice holds again behind the inner one.
		{exists(and(is(0, 1), exists(is(0, 2), 0)), 0), nil, ints(1, 2), true},
		{exists(and(exists(is(0, 2), 0), is(0, 1)), 0), nil, ints(1, 2), true},
		{exists(and(exists(is(0, 2), 0), is(0, 1), exists(is(0, 2), 0), is(0, 1)), 0), nil, ints(1, 2), true},
		{exists(and(exists(is(0, 2), 0), is(0, 3)), 0), nil, ints(1, 2), false},
		{forall(or(and(exists(is(0, 2), 0), is(0, 1)), and(exists(is(0, 1), 0), is(0, 2))), 0), nil, ints(1, 2), true},
		{forall(and(exists(is(0, 2), 0), lt(-3, 0, 1), le(1, 0, -1)), 0), nil, ints(1, 2), true},
		{exists(and(not(exists(is(0, 3), 0)), is(0, 1)), 0), ints(9), ints(2, 1), true},
		{exists(and(forall(le(1, 0, -1), 0), is(0, 1), forall(le(1, 0, -1), 0), is(0, 1)), 0), nil, ints(1, 2), true},
		{and(exists(and(exists(is(0, 2), 0), is(0, 1)), 0), is(0, 7)), ints(7), ints(1, 2), true},
		{exists(exists(is(0, 2), 0), 0), nil, ints(1, 2), true},
		{forall(exists(and(is(0, 2), exists(is(0, 1), 0), is(0, 2)), 0), 0), nil, ints(1, 2), true},
		// Bound beside another one that is not.
		{exists(and(exists(and(is(0, 2), is(1, 1)), 0), is(0, 1)), 0, 1), nil, ints(1, 2), true},
		{exists(and(exists(and(is(0, 2), is(1, 1)), 0, 1), is(0, 1), is(1, 2)), 0, 1), nil, ints(1, 2), true},
		{exists(and(exists(and(is(0, 2), is(1, 1)), 1, 0), is(0, 1), is(1, 2)), 0, 1), nil, ints(1, 2), true},
		{exists(and(exists(and(is(0, 2), is(1, 1)), 1), is(0, 2), is(1, 2)), 0, 1), nil, ints(1, 2), true},
		{exists(and(exists(and(is(0, 2), is(1, 1)), 1), is(0, 1), is(1, 2)), 0, 1), nil, ints(1, 2), false},
		// A bound variable with a value, too: that does not count within.
		{exists(is(0, 5), 0), ints(5), ints(1, 2), false},
		{forall(le(-2, 0, 1), 0), ints(5), ints(1, 2), true},
		{exists(is(0, 0), 0), nil, ints(1, 2), false},
		{exists(same(0, 1), 0), ints(9, 2), ints(1, 2), true},
		{exists(same(0, 1), 0), ints(9, 9), ints(1, 2), false},
		{exists(same(0, 1), 1), ints(9, 9), ints(1, 2), false},
		{forall(eq(-10, 0, 1, 1, 1), 1), ints(9, 9), ints(1), true},
	} {
		for _, in := range logics() {
			equal(t, over(t, in, c.f, c.values, c.domain), c.want, "case ", k, ", logic ", in)
			equal(t, model(c.f, listed(c.values), c.domain), c.want, "case ", k, " of the model")
		}
	}
}

// P16.2: quantifiers of more than one variable.
func TestP16_2ManyVars(t *testing.T) {
	small := ints(0, 1, 2)
	sum := eq(-6, 3, 1, 5, 1, 8, 1)
	for _, vars := range [][]int{{3, 5, 8}, {8, 3, 5}, {5, 8, 3}, {3, 5, 8, 7}, {9, 8, 2, 5, 3}} {
		equal(t, over(t, api.Whole, exists(sum, vars...), nil, small), true, "there are ", vars)
		equal(t, over(t, api.Whole, exists(sum, vars...), nil, ints(0, 1)), false, "there are not ", vars)
		equal(t, over(t, api.Whole, forall(sum, vars...), nil, small), false, "not for all ", vars)
		equal(t, over(t, api.Whole, forall(le(-6, 3, 1, 5, 1, 8, 1), vars...), nil, small), true, "for all ", vars)
		equal(t, over(t, api.Whole, forall(lt(-6, 3, 1, 5, 1, 8, 1), vars...), nil, small), false, "but for the last of all ", vars)
		equal(t, over(t, api.Whole, forall(lt(0, 3, -1, 5, -1, 8, -1), vars...), nil, small), false, "but for the first of all ", vars)
		equal(t, over(t, api.Whole, forall(lt(-6, 3, 1, 5, 1, 8, 1), vars...), nil, ints(2)), false, "by one value, for all ", vars)
		equal(t, over(t, api.Whole, exists(sum, vars...), nil, ints(2)), true, "by one value, there are ", vars)
		// Each single choice of the three is found.
		for n := range 27 {
			a, b, c := n/9, n/3%3, n%3
			one := and(is(3, a), is(5, b), is(8, c))
			equal(t, over(t, api.Whole, exists(one, vars...), nil, small), true, "there is ", n)
			equal(t, over(t, api.Whole, forall(not(one), vars...), nil, small), false, "for all but ", n)
			equal(t, count(t, api.Whole, one, []int{8, 3, 5}, small), 1, "Count of ", n)
		}
	}
	for n := range 9 {
		mixed := forall(exists(and(eq(0, 0, 1, 1, 1, 2, -1, 3, -1), le(-n, 2, 1)), 2, 3), 0, 1)
		equal(t, over(t, api.Real, mixed, nil, small), model(mixed, choice{}, small), "for all, there are, up to ", n)
	}
}

// P16.2: Count of no variables, of such that are not free, that are bound within, and of values that stand twice.
func TestP16_2Count(t *testing.T) {
	three := ints(0, 1, 2)
	for k, c := range []struct {
		f      formula
		vars   []int
		domain []api.Rat
		want   int
	}{
		{is(0, 0), nil, three, 1}, {is(0, 0), []int{}, ints(7), 1}, {is(0, 1), nil, three, 0}, {yes(), nil, ints(5), 1}, {no(), nil, ints(5), 0},
		{is(0, 1), []int{0}, three, 1}, {is(0, 7), []int{0}, three, 0}, {le(-1, 0, 1), []int{0}, three, 2}, {not(is(0, 1)), []int{0}, three, 2},
		// Variables that are not free multiply.
		{is(0, 1), []int{1}, three, 0}, {is(0, 0), []int{1}, three, 3}, {is(0, 0), []int{1, 2}, three, 9}, {is(0, 1), []int{1, 0}, three, 3}, {is(0, 1), []int{4, 0, 3}, three, 9},
		{yes(), []int{0}, three, 3}, {yes(), []int{0, 1, 2, 3}, three, 81}, {no(), []int{0, 1, 2, 3}, three, 0}, {and(), []int{lastVar, 0}, three, 9}, {or(), []int{7}, three, 0},
		// Bound within, alone and beside.
		{exists(is(0, 1), 0), []int{0}, three, 3}, {forall(is(0, 1), 0), []int{0}, three, 0}, {forall(is(0, 1), 0), []int{0}, ints(1, 1), 2},
		{and(exists(is(0, 1), 0), is(0, 2)), []int{0}, three, 1}, {and(is(0, 2), exists(is(0, 1), 0), is(0, 2)), []int{0}, three, 1}, {and(exists(is(0, 1), 0), not(is(0, 2))), []int{0, 1}, three, 6},
		{exists(same(0, 1), 0), []int{0}, three, 3}, {exists(same(0, 1), 0), []int{1}, three, 3}, {exists(same(0, 1), 0), []int{1, 0}, three, 9}, {exists(eq(-1, 0, 1, 1, -1), 0), []int{1}, three, 2}, {exists(eq(-1, 0, 1, 1, -1), 0), []int{1, 0}, three, 6},
		{forall(le(0, 0, -1, 1, 1), 0), []int{1}, three, 1}, {forall(le(0, 0, 1, 1, -1), 0), []int{1}, three, 1}, {forall(le(-1, 0, 1, 1, -1), 0), []int{1}, three, 2},
		// Values count by their places.
		{is(0, 1), []int{0}, ints(1, 1), 2}, {is(0, 1), []int{0}, ints(1, 2, 1), 2}, {same(0, 1), []int{0, 1}, ints(1, 1), 4}, {same(0, 1), []int{0, 1}, ints(1, 2, 1), 5}, {same(0, 1), []int{1, 0}, ints(2, 1, 1), 5}, {yes(), []int{0, 1}, ints(3, 3), 4},
		{exists(is(0, 1), 0), []int{0}, ints(1, 1), 2}, {exists(is(0, 1), 0), nil, ints(1, 1), 1}, {exists(same(0, 1), 0), []int{1}, ints(1, 1), 2},
		// All other free variables are 0.
		{same(0, 1), []int{0}, three, 1}, {same(0, 1), []int{1}, ints(1, 2), 0}, {same(0, 1), nil, ints(1), 1}, {eq(-2, 0, 1, 1, 1, 2, 1), []int{2}, three, 1}, {eq(-2, 0, 1, 1, 1, 2, 1), []int{2, 0}, three, 3}, {eq(-2, 0, 1, 1, 1, 2, 1), []int{2, 0, 1}, three, 6},
	} {
		for _, in := range logics() {
			equal(t, count(t, in, c.f, c.vars, c.domain), c.want, "case ", k, ", logic ", in)
		}
	}
	equal(t, count(t, api.Real, eq(-1, 0, 1, 1, 1), []int{0, 1}, []api.Rat{of(1, 2), of(1, 3), of(2, 3), of(1, 2)}), 6, "Count by quotients")
	equal(t, count(t, api.Whole, div(3, 1, 0, 1, 1, 1), []int{0, 1}, ints(0, 1, 2, 3, 4, 5)), 12, "Count of a Div")
	equal(t, count(t, api.Whole, is(0, 1), []int{lastVar, 0}, ints(0, 1)), 2, "Count for the last variable")
}

// TestCountMany counts choices of many variables that change nothing, and of many that are free by one value.
func TestCountMany(t *testing.T) {
	row := make([]int, mostVars)
	sum := api.Term{Add: whole.Of(-mostVars / 16)}
	for v := range row {
		row[v] = lastVar - v
		if v%16 == 0 {
			sum.Parts = append(sum.Parts, api.Part{Var: v, Coef: whole.Of(1)})
		}
	}
	equal(t, count(t, api.Whole, is(3, 1), row[mostVars-41:], ints(0, 1)), 1<<40, "Count of 41 variables")
	equal(t, count(t, api.Whole, is(3, 2), row, ints(0, 1)), 0, "Count of all variables by two values, of what is never so")
	all := leaf(api.Atom{Kind: api.Eq, Term: sum})
	equal(t, count(t, api.Whole, all, row, ints(1)), 1, "Count of all variables by one value")
	equal(t, count(t, api.Whole, all, row, ints(2)), 0, "Count of all variables by one value, of what is not so")
	equal(t, over(t, api.Whole, exists(all, row...), nil, ints(1, 0)), true, "there are all variables, of which the first choice will do")
	sum.Add = whole.Of(-mostVars/16 + 1)
	equal(t, over(t, api.Whole, exists(exists(leaf(api.Atom{Kind: api.Eq, Term: sum}), row...), row...), nil, ints(1, 0)), true, "there are all variables, twice, of which another choice will do")
	equal(t, over(t, api.Whole, forall(leaf(api.Atom{Kind: api.Eq, Term: sum}), row...), nil, ints(1, 0)), false, "for all variables, which the first choice is against")
	// What an int can't tell is beyond all bounds, but the call ends.
	_, e := eval.Count(api.Real, yes(), row, ints(0, 1, 2))
	equal(t, e, api.OK, "Count of more choices than may be counted")
}

// P16.3: Not, And, Or are true as their kids' truths say; an atom as atom.Holds has it.
func TestP16_3Pieces(t *testing.T) {
	for _, in := range logics() {
		some(in, 163, 1500, func(r *rand.Rand, f formula, values, domain []api.Rat) {
			g, h := made(r, in, 3, every), made(r, in, 3, every)
			a, b, c := over(t, in, f, values, domain), over(t, in, g, values, domain), over(t, in, h, values, domain)
			equal(t, over(t, in, not(f), values, domain), !a, "Not of ", spell(f))
			equal(t, over(t, in, and(f), values, domain), a, "And of ", spell(f))
			equal(t, over(t, in, or(f), values, domain), a, "Or of ", spell(f))
			equal(t, over(t, in, and(f, g, h), values, domain), a && b && c, "And of ", spell(f), spell(g), spell(h))
			equal(t, over(t, in, or(f, g, h), values, domain), a || b || c, "Or of ", spell(f), spell(g), spell(h))
			equal(t, over(t, in, logic.And([]formula{f, g, h}), values, domain), a && b && c, "logic.And of ", spell(f), spell(g), spell(h))
			equal(t, over(t, in, logic.Or([]formula{f, g, h}), values, domain), a || b || c, "logic.Or of ", spell(f), spell(g), spell(h))
			x := madeAtom(r, in)
			equal(t, truth(t, in, leaf(x), values), atom.Holds(x, values), "Truth of an atom ", x, " by ", values)
			equal(t, over(t, in, leaf(x), values, domain), atom.Holds(x, values), "Over of an atom ", x, " by ", values)
		})
	}
}

// P16.3: atoms of long numbers, and by long values.
func TestP16_3Long(t *testing.T) {
	one, top := whole.Of(1), api.Int{Limbs: slices.Repeat([]uint32{full}, mostLong)}
	least := whole.Neg(top)
	x := func(kind uint8, coef, add api.Int) formula {
		return leaf(api.Atom{Kind: kind, Term: api.Term{Parts: []api.Part{{Var: 5, Coef: coef}}, Add: add}})
	}
	by := func(x api.Rat) []api.Rat { return append(ints(0, 0, 0, 0, 0), x) }
	for k, c := range []struct {
		f    formula
		x    api.Rat
		want bool
	}{
		{x(api.Eq, one, least), rat.Of(top), true},
		{x(api.Eq, one, least), rat.Of(whole.Sub(top, one)), false},
		{x(api.Lt, one, least), rat.Of(top), false},
		{x(api.Lt, one, least), rat.Of(whole.Sub(top, one)), true},
		{x(api.Le, one, top), rat.Of(least), true},
		{x(api.Le, one, top), rat.Of(whole.Add(least, one)), false},
		{x(api.Eq, top, least), rat.Int(1), true},
		{x(api.Eq, top, least), rat.Int(0), false},
		{leaf(api.Atom{Kind: api.Div, Term: linear(0, 5, 1), Mod: top}), rat.Of(least), true},
		{leaf(api.Atom{Kind: api.Div, Term: linear(1, 5, 1), Mod: top}), rat.Of(least), false},
	} {
		equal(t, truth(t, api.Whole, c.f, by(c.x)), c.want, "case ", k)
		equal(t, over(t, api.Whole, exists(c.f, 5), nil, []api.Rat{c.x, c.x}), c.want, "there is, case ", k)
		equal(t, truth(t, api.Whole, c.f, by(c.x)), atom.Holds(c.f.Atom, by(c.x)), "Holds, case ", k)
	}
	// A number that 3 divides, less 1, by 3.
	long := api.Int{Limbs: slices.Repeat([]uint32{full}, mostLong/4)}
	third, e := rat.Make(whole.Sub(long, one), whole.Of(3))
	equal(t, e, api.OK, "Make of a long third")
	less := x(api.Lt, whole.Of(3), whole.Neg(long))
	equal(t, truth(t, api.Real, less, by(third)), true, "three times a long third")
	equal(t, over(t, api.Real, forall(less, 5), nil, []api.Rat{third, rat.Int(0)}), true, "for all, three times a long third")
	equal(t, over(t, api.Real, forall(less, 5), nil, []api.Rat{third, rat.Of(long)}), false, "for all, three times a long number")
	refusesTruth(t, api.ErrArg, api.Whole, less, by(third), "a long third over the whole numbers")
}

// P16.4: Exists is true just if its kid is by one choice, Forall just if it is by all, and if Exists of what is not its kid is not.
func TestP16_4Domain(t *testing.T) {
	for _, in := range logics() {
		some(in, 164, 1500, func(r *rand.Rand, f formula, values, domain []api.Rat) {
			v := r.Intn(5)
			longer := slices.Concat(values, ints(0, 0, 0, 0, 0))
			one, all := false, true
			for _, x := range domain {
				longer[v] = x
				is := over(t, in, f, longer, domain)
				one, all = one || is, all && is
			}
			equal(t, over(t, in, exists(f, v), values, domain), one, "Exists of ", v, " in ", spell(f), " by ", values, " and ", domain)
			equal(t, over(t, in, forall(f, v), values, domain), all, "Forall of ", v, " in ", spell(f), " by ", values, " and ", domain)
			vars := r.Perm(5)[:1+r.Intn(3)]
			all = over(t, in, forall(f, vars...), values, domain)
			equal(t, over(t, in, not(exists(not(f), vars...)), values, domain), all, "Forall of ", vars, " in ", spell(f))
			equal(t, over(t, in, exists(f, vars...), values, domain), over(t, in, nested(api.Exists, f, vars), values, domain), "Exists of ", vars, " one by one in ", spell(f))
			equal(t, all, over(t, in, nested(api.Forall, f, vars), values, domain), "Forall of ", vars, " one by one in ", spell(f))
			f = made(r, in, 4, plain)
			equal(t, over(t, in, f, values, domain), truth(t, in, f, values), "Over without quantifiers of ", spell(f))
		})
	}
}

// nested are quantifiers of one variable each, the first one outermost.
func nested(op uint8, f formula, vars []int) formula {
	for _, v := range slices.Backward(vars) {
		f = bind(op, []int{v}, f)
	}
	return f
}

// called is a formula with its bound variables called otherwise, each by a number that no other one has.
func called(f formula, names map[int]int, next *int) formula {
	names = maps.Clone(names)
	g := formula{Op: f.Op, Atom: f.Atom}
	for _, v := range f.Vars {
		*next += 3
		names[v] = *next
		g.Vars = append(g.Vars, *next)
	}
	if f.Op == api.Is {
		var from, to []int
		for v, n := range names {
			from, to = append(from, v), append(to, n)
		}
		g.Atom, _ = atom.Rename(f.Atom, from, to)
	}
	for _, kid := range f.Kids {
		g.Kids = append(g.Kids, called(kid, names, next))
	}
	return g
}

// P16.5: what is alike is true by the same values; only values of free variables count.
func TestP16_5Alike(t *testing.T) {
	for _, in := range logics() {
		some(in, 165, 1500, func(r *rand.Rand, f formula, values, domain []api.Rat) {
			next := 10 + r.Intn(50)
			g := called(f, map[int]int{}, &next)
			equal(t, logic.Alike(f, g), true, "Alike of ", spell(f))
			want := over(t, in, f, values, domain)
			equal(t, over(t, in, g, values, domain), want, "Over of ", spell(f), " called otherwise")
			vars := r.Perm(5)[:r.Intn(3)]
			equal(t, count(t, in, g, vars, domain), count(t, in, f, vars, domain), "Count of ", spell(f), " called otherwise")
			// Other values for all that is not free.
			others := slices.Concat(values, ints(0, 0, 0, 0, 0, 0))
			for v := range others {
				if !slices.Contains(logic.Free(f), v) {
					others[v] = pick(r, ints(-2, 3, 11))
				}
			}
			equal(t, over(t, in, f, others, domain), want, "Over of ", spell(f), " by other values: ", others)
		})
	}
}

// P16.5: with a domain in another row, or with one of its values twice, the truth is the same.
func TestP16_5Domain(t *testing.T) {
	for _, in := range logics() {
		some(in, 166, 1500, func(r *rand.Rand, f formula, values, domain []api.Rat) {
			want := over(t, in, f, values, domain)
			mixed := slices.Clone(domain)
			r.Shuffle(len(mixed), func(i, k int) { mixed[i], mixed[k] = mixed[k], mixed[i] })
			twice := slices.Insert(slices.Clone(mixed), r.Intn(len(mixed)+1), pick(r, domain))
			equal(t, over(t, in, f, values, mixed), want, "Over of ", spell(f), " by ", domain, " in the row ", mixed)
			equal(t, over(t, in, f, values, twice), want, "Over of ", spell(f), " by ", domain, " with one twice, ", twice)
			vars := r.Perm(5)[:r.Intn(3)]
			equal(t, count(t, in, f, vars, mixed), count(t, in, f, vars, domain), "Count of ", spell(f), " by ", domain, " in the row ", mixed)
			slices.Reverse(vars)
			equal(t, count(t, in, f, vars, domain), modelCount(f, vars, choice{}, domain), "Count of ", spell(f), " in the row ", vars)
		})
	}
	for _, op := range []uint8{api.Exists, api.Forall} {
		f := bind(op, []int{0, 1}, or(lt(0, 0, 1, 1, -1), is(0, 3)))
		for _, l := range [][]int{{1}, {3}, {1, 1}, {3, 3}, {1, 3}, {3, 1}, {1, 3, 1}, {3, 1, 1}, {1, 3, 3}} {
			equal(t, over(t, api.Real, f, nil, ints(l...)), op == api.Exists && slices.Contains(l, 3) || !slices.Contains(l, 1), "Op ", op, " by ", l)
		}
	}
}

// P16.6: Count of a formula and of what is not it, together, are as many as there are choices.
func TestP16_6Counted(t *testing.T) {
	for _, in := range logics() {
		some(in, 167, 1500, func(r *rand.Rand, f formula, values, domain []api.Rat) {
			vars := r.Perm(6)[:r.Intn(5)]
			all := 1
			for range vars {
				all *= len(domain)
			}
			equal(t, count(t, in, f, vars, domain)+count(t, in, not(f), vars, domain), all, "Count of ", spell(f), " for ", vars, " by ", domain)
			none := 0
			if over(t, in, f, nil, domain) {
				none = 1
			}
			equal(t, count(t, in, f, nil, domain), none, "Count of no variables of ", spell(f))
			equal(t, count(t, in, f, []int{}, domain), none, "Count of an empty list of ", spell(f))
			// There are such just if some are counted.
			if len(vars) > 0 {
				equal(t, over(t, in, exists(f, vars...), nil, domain), count(t, in, f, vars, domain) > 0, "Exists of ", vars, " in ", spell(f))
			}
		})
	}
}

// wrongValues are quotients that may not be.
func wrongValues() []api.Rat {
	one, zero := whole.Of(1), api.Int{}
	return []api.Rat{
		{}, {Num: one}, {Num: one, Den: whole.Of(-1)}, {Num: zero, Den: whole.Of(2)}, {Num: zero, Den: whole.Of(-1)},
		{Num: whole.Of(2), Den: whole.Of(4)}, {Num: whole.Of(3), Den: whole.Of(3)}, {Num: whole.Of(-6), Den: whole.Of(2)},
		{Num: api.Int{Neg: true}, Den: one}, {Num: api.Int{Limbs: []uint32{0}}, Den: one}, {Num: api.Int{Limbs: []uint32{1, 0}}, Den: one},
		{Num: one, Den: api.Int{Limbs: []uint32{1, 0}}}, {Num: one, Den: api.Int{Neg: true}},
		{Num: api.Int{Limbs: slices.Repeat([]uint32{1}, mostLong+1)}, Den: one}, {Num: one, Den: api.Int{Limbs: slices.Repeat([]uint32{1}, mostLong+1)}},
	}
}

// wrongFormulas are such as may not be.
func wrongFormulas() []formula {
	x := le(0, 0, 1)
	var l []formula
	for _, op := range []uint8{8, 9, 77, 128, 255} {
		l = append(l, formula{Op: op}, formula{Op: op, Kids: []formula{x}}, formula{Op: op, Vars: []int{0}, Kids: []formula{x}}, formula{Op: op, Atom: x.Atom})
	}
	l = append(l,
		formula{Op: api.True, Kids: []formula{x}}, formula{Op: api.False, Vars: []int{0}}, formula{Op: api.True, Atom: x.Atom}, formula{Op: api.False, Atom: api.Atom{Mod: whole.Of(2)}},
		formula{Op: api.Is, Atom: x.Atom, Kids: []formula{x}}, formula{Op: api.Is, Atom: x.Atom, Vars: []int{0}},
		formula{Op: api.Not}, formula{Op: api.Not, Kids: []formula{x, x}}, formula{Op: api.Not, Kids: []formula{x}, Vars: []int{0}}, formula{Op: api.Not, Kids: []formula{x}, Atom: x.Atom},
		formula{Op: api.And, Vars: []int{0}}, formula{Op: api.Or, Atom: x.Atom}, formula{Op: api.Exists, Vars: []int{0}}, formula{Op: api.Forall, Kids: []formula{x}},
		exists(x), forall(x, []int{}...), exists(x, -1), forall(x, mostVars), exists(x, 0, 0), forall(x, 1, 0, 1), exists(x, math.MinInt), forall(x, math.MaxInt),
		formula{Op: api.Exists, Vars: []int{0}, Kids: []formula{x, x}},
		leaf(api.Atom{Kind: 4}), leaf(api.Atom{Kind: 255}), leaf(api.Atom{Mod: whole.Of(1)}), leaf(api.Atom{Kind: api.Div}), div(0, 0, 0, 1), div(-3, 0, 0, 1), eq(0, -1, 1), eq(0, mostVars, 1), lt(0, 0, 0), le(0, 1, 1, 0, 1), le(0, 1, 1, 1, 1),
		leaf(api.Atom{Term: api.Term{Add: api.Int{Neg: true}}}), leaf(api.Atom{Term: api.Term{Add: api.Int{Limbs: []uint32{0}}}}), leaf(api.Atom{Term: api.Term{Add: api.Int{Limbs: slices.Repeat([]uint32{1}, mostLong+1)}}}),
		denied(x, api.MaxDepth), and(slices.Repeat([]formula{x}, api.MaxNodes)...), noEnd(), twiceAsMuch())
	return l
}

// noEnd is a formula that has itself among its kids.
func noEnd() formula {
	f := and(yes(), no())
	f.Kids[0] = not(yes())
	f.Kids[0].Kids[0] = formula{Op: api.And, Kids: f.Kids}
	return f
}

// twiceAsMuch is a formula of more nodes than there is memory for.
func twiceAsMuch() formula {
	f := le(0, 0, 1)
	for range 62 {
		f = or(f, f)
	}
	return f
}

// refusesTruth, refusesOver, refusesCount complain unless a call tells an error, and nothing beside it.
func refusesTruth(t *testing.T, want api.Errno, in uint8, f formula, values []api.Rat, what ...any) {
	t.Helper()
	got, e := eval.Truth(in, f, values)
	equal(t, e, want, append([]any{"Truth: "}, what...)...)
	equal(t, got, false, append([]any{"Truth, beside the error: "}, what...)...)
}

func refusesOver(t *testing.T, want api.Errno, in uint8, f formula, values, domain []api.Rat, what ...any) {
	t.Helper()
	got, e := eval.Over(in, f, values, domain)
	equal(t, e, want, append([]any{"Over: "}, what...)...)
	equal(t, got, false, append([]any{"Over, beside the error: "}, what...)...)
}

func refusesCount(t *testing.T, want api.Errno, in uint8, f formula, vars []int, domain []api.Rat, what ...any) {
	t.Helper()
	got, e := eval.Count(in, f, vars, domain)
	equal(t, e, want, append([]any{"Count: "}, what...)...)
	equal(t, got, 0, append([]any{"Count, beside the error: "}, what...)...)
}

// behind are formulas of each row of the table of errors: one that is right, one that may not be in Real, and those that may not be.
func behind() []formula {
	return []formula{yes(), div(2, 0, 0, 1), exists(yes(), 0), {Op: 99}, not(leaf(api.Atom{Kind: 7})), and(div(2, 0), formula{Op: 99})}
}

// ErrArg: there is no such logic, whatever else is handed in.
func TestErrArgLogic(t *testing.T) {
	for _, in := range []uint8{2, 3, 4, 7, 127, 128, 254, 255} {
		for k, f := range behind() {
			for _, values := range [][]api.Rat{nil, ints(1), {{}}} {
				refusesTruth(t, api.ErrArg, in, f, values, "logic ", in, ", formula ", k)
				refusesOver(t, api.ErrArg, in, f, values, ints(1), "logic ", in, ", formula ", k)
				refusesOver(t, api.ErrArg, in, f, nil, values, "logic ", in, ", formula ", k)
				refusesCount(t, api.ErrArg, in, f, nil, ints(1), "logic ", in, ", formula ", k)
				refusesCount(t, api.ErrArg, in, f, []int{-1}, values, "logic ", in, ", formula ", k)
			}
		}
	}
}

// ErrArg: values, and domains, that may not be, or are not whole over the whole numbers, or a domain of none, ahead of the other rows.
func TestErrArgValues(t *testing.T) {
	for _, in := range logics() {
		wrong := wrongValues()
		if in == api.Whole {
			wrong = append(wrong, of(1, 2), of(-7, 3), of(1, math.MaxInt))
		}
		for k, x := range wrong {
			for n, f := range behind() {
				for _, values := range [][]api.Rat{{x}, {rat.Int(1), x}, {x, rat.Int(1)}, append(ints(1, 2, 3, 4, 5, 6, 7), x, rat.Int(9))} {
					what := fmt.Sprint("logic ", in, ", value ", k, ", formula ", n)
					refusesTruth(t, api.ErrArg, in, f, values, what)
					refusesOver(t, api.ErrArg, in, f, values, ints(1), what)
					refusesOver(t, api.ErrArg, in, f, nil, values, what)
					refusesOver(t, api.ErrArg, in, f, values, nil, what)
					refusesCount(t, api.ErrArg, in, f, nil, values, what)
					refusesCount(t, api.ErrArg, in, f, []int{0, 0}, values, what)
				}
			}
		}
		for n, f := range behind() {
			for _, none := range [][]api.Rat{nil, {}} {
				refusesOver(t, api.ErrArg, in, f, nil, none, "no domain, formula ", n)
				refusesOver(t, api.ErrArg, in, f, ints(1, 2), none, "no domain, formula ", n)
				refusesCount(t, api.ErrArg, in, f, nil, none, "no domain, formula ", n)
				refusesCount(t, api.ErrArg, in, f, []int{-1}, none, "no domain, formula ", n)
			}
		}
	}
	// What is not whole may be over the quotients.
	half := []api.Rat{of(1, 2), of(-7, 3)}
	equal(t, truth(t, api.Real, yes(), half), true, "quotients as values")
	equal(t, over(t, api.Real, yes(), half, half), true, "quotients as a domain")
	equal(t, count(t, api.Real, yes(), []int{4}, half), 2, "quotients that are counted")
}

// ErrForm: formulas that may not be, such with quantifiers handed to Truth, and variables of Count that may not be, ahead of ErrSort.
func TestErrForm(t *testing.T) {
	for _, in := range logics() {
		for k, f := range wrongFormulas() {
			for n, g := range []formula{f, not(f), and(no(), f), or(yes(), f), exists(f, 0), forall(f, 7), and(div(2, 0, 0, 1), f), and(f, not(div(2, 0, 0, 1))), or(and(not(exists(f, 3))), yes())} {
				what := fmt.Sprint("logic ", in, ", formula ", k, ", within ", n)
				refusesTruth(t, api.ErrForm, in, g, ints(1), what)
				refusesOver(t, api.ErrForm, in, g, ints(1), ints(1, 2), what)
				refusesCount(t, api.ErrForm, in, g, []int{0}, ints(1, 2), what)
				refusesCount(t, api.ErrForm, in, g, nil, ints(1, 2), what)
			}
		}
		for k, f := range []formula{exists(is(0, 1), 0), forall(yes(), 3), not(exists(no(), 0, 1)), and(no(), exists(is(1, 1), 0)), or(yes(), is(0, 1), and(forall(is(0, 1), 0))), exists(div(2, 0, 0, 1), 0), and(div(2, 0), exists(yes(), 0))} {
			refusesTruth(t, api.ErrForm, in, f, ints(1), "quantifiers, ", k)
		}
		for k, f := range []formula{yes(), is(0, 1), exists(is(0, 1), 0), div(2, 0, 0, 1), not(div(2, 0, 5, 1)), {Op: 99}} {
			for _, vars := range [][]int{{-1}, {mostVars}, {0, -1}, {mostVars, 0}, {math.MinInt}, {math.MaxInt}, {0, 0}, {0, 1, 0}, {1, 2, 3, 2}, {lastVar, 4, lastVar}, {-1, -1}, {3, 2, 1, mostVars + 1}} {
				refusesCount(t, api.ErrForm, in, f, vars, ints(1, 2), "formula ", k, ", variables ", vars)
			}
		}
	}
}

// ErrSort: atoms that may not be in the logic, alone and deep within a formula, also where nothing asks them.
func TestErrSort(t *testing.T) {
	for k, d := range []formula{div(2, 0, 0, 1), div(1, 0), div(1, 0, 3, 1), div(7, 7, 0, 7, lastVar, -7)} {
		deep := denied(d, api.MaxDepth-1)
		wide := and(append(slices.Repeat([]formula{no()}, api.MaxNodes-2), d)...)
		for n, f := range []formula{d, not(d), and(d), or(d), and(no(), d), or(yes(), d), and(d, no()), or(d, yes()), and(or(yes(), not(and(no(), or(d)))), yes()), deep, wide} {
			what := fmt.Sprint("atom ", k, ", within ", n)
			refusesTruth(t, api.ErrSort, api.Real, f, ints(1), what)
			refusesOver(t, api.ErrSort, api.Real, f, ints(1), ints(1, 2), what)
			refusesCount(t, api.ErrSort, api.Real, f, []int{0}, ints(1, 2), what)
			refusesCount(t, api.ErrSort, api.Real, f, nil, ints(1, 2), what)
			truth(t, api.Whole, f, ints(1))
			over(t, api.Whole, f, ints(1), ints(1, 2))
			count(t, api.Whole, f, []int{0}, ints(1, 2))
		}
		for n, f := range []formula{exists(d, 0), forall(d, 0), exists(d, 77), forall(or(yes(), d), 5), exists(and(no(), forall(d, 3)), 0), or(yes(), exists(not(d), 0))} {
			refusesOver(t, api.ErrSort, api.Real, f, ints(1), ints(1, 2), "atom ", k, ", bound within ", n)
			refusesCount(t, api.ErrSort, api.Real, f, []int{0}, ints(1, 2), "atom ", k, ", bound within ", n)
			over(t, api.Whole, f, ints(1), ints(1, 2))
		}
	}
}

// TestMost asks formulas of as many nodes, as deep, and of as many variables as may be.
func TestMost(t *testing.T) {
	deep := denied(is(0, 1), api.MaxDepth-1)
	equal(t, truth(t, api.Whole, deep, ints(1)), false, "63 Nots of what is so")
	equal(t, truth(t, api.Whole, deep, ints(2)), true, "63 Nots of what is not so")
	var l []formula
	for v := range api.MaxNodes - 1 {
		l = append(l, is(v, v))
	}
	var values []api.Rat
	for v := range l {
		values = append(values, rat.Int(v))
	}
	equal(t, truth(t, api.Whole, and(l...), values), true, "4095 atoms that are so")
	equal(t, truth(t, api.Whole, and(l...), values[:len(values)-1]), false, "4095 atoms of which one is not so")
	values[4000] = rat.Int(1)
	equal(t, truth(t, api.Whole, and(l...), values), false, "4095 atoms of which one in between is not so")
	values = slices.Repeat(ints(-5), 4094)
	equal(t, truth(t, api.Whole, or(l...), values), false, "4095 atoms of which none is so")
	equal(t, truth(t, api.Whole, or(l...), append(values, rat.Int(4094))), true, "4095 atoms of which the last is so")
	// Quantifiers, one within the other, of one variable, and of a variable each: a domain of one value leaves one choice.
	inner, each := is(0, 3), is(62, 3)
	for k := range 63 {
		inner, each = bind(api.Exists+uint8(k%2), []int{0}, inner), bind(api.Exists+uint8(k%2), []int{62 - k}, each)
	}
	equal(t, over(t, api.Real, inner, nil, ints(3)), true, "63 quantifiers of one variable")
	equal(t, over(t, api.Real, inner, nil, ints(3, 4)), true, "63 quantifiers of one variable, by two values")
	equal(t, over(t, api.Real, each, nil, ints(3)), true, "63 quantifiers")
	equal(t, over(t, api.Real, each, nil, ints(4)), false, "63 quantifiers of what is not so")
}

// spare is a formula whose lists have something behind their end, and looks at whether it is as it was.
func spare(f formula, looks *[]func() bool) formula {
	g := formula{Op: f.Op, Atom: f.Atom, Vars: spareList(f.Vars, 9, looks), Kids: nil}
	g.Atom.Mod.Limbs = spareList(f.Atom.Mod.Limbs, 9, looks)
	g.Atom.Term.Add.Limbs = spareList(f.Atom.Term.Add.Limbs, 9, looks)
	l := slices.Clone(f.Atom.Term.Parts)
	for k, p := range l {
		l[k].Coef.Limbs = spareList(p.Coef.Limbs, 9, looks)
	}
	g.Atom.Term.Parts = spareAny(l, api.Part{Var: 9}, looks)
	var kids []formula
	for _, kid := range f.Kids {
		kids = append(kids, spare(kid, looks))
	}
	g.Kids = spareAny(kids, formula{Op: 9}, looks)
	return g
}

// spareValues are values likewise.
func spareValues(l []api.Rat, looks *[]func() bool) []api.Rat {
	l = slices.Clone(l)
	for k, x := range l {
		l[k].Num.Limbs, l[k].Den.Limbs = spareList(x.Num.Limbs, 9, looks), spareList(x.Den.Limbs, 9, looks)
	}
	return spareAny(l, api.Rat{}, looks)
}

// spareList is a list likewise, of what can be compared.
func spareList[T comparable](l []T, behind T, looks *[]func() bool) []T {
	long := append(slices.Clone(l), behind, behind)
	kept := slices.Clone(long)
	*looks = append(*looks, func() bool { return slices.Equal(long, kept) })
	return long[:len(l)]
}

// spareAny is a list likewise, held against itself by its text.
func spareAny[T any](l []T, behind T, looks *[]func() bool) []T {
	long := append(slices.Clone(l), behind, behind)
	kept := fmt.Sprint(long)
	*looks = append(*looks, func() bool { return fmt.Sprint(long) == kept })
	return long[:len(l)]
}

// R1: what is handed in stays, also behind its end, with an error and without; what is told once is told again.
func TestR1Stays(t *testing.T) {
	for _, in := range logics() {
		some(in, 161, 400, func(r *rand.Rand, f formula, values, domain []api.Rat) {
			if r.Intn(8) == 0 {
				f = and(f, div(2, 0, 0, 1))
			}
			if r.Intn(8) == 0 {
				values = append(values, of(1, 2), api.Rat{})
			}
			var looks []func() bool
			vars := spareList(r.Perm(6)[:r.Intn(4)], 9, &looks)
			f, values, domain = spare(f, &looks), spareValues(values, &looks), spareValues(domain, &looks)
			first, e1 := eval.Over(in, f, values, domain)
			plain, e2 := eval.Truth(in, f, values)
			many, e3 := eval.Count(in, f, vars, domain)
			for k, look := range looks {
				if !look() {
					t.Fatal("something that was handed in has changed:", k, spell(f))
				}
			}
			again, e4 := eval.Over(in, f, values, domain)
			plainAgain, e5 := eval.Truth(in, f, values)
			manyAgain, e6 := eval.Count(in, f, vars, domain)
			if first != again || plain != plainAgain || many != manyAgain || e1 != e4 || e2 != e5 || e3 != e6 {
				t.Error("told otherwise when asked again:", spell(f))
			}
		})
	}
}
