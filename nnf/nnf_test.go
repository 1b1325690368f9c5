package nnf_test

import (
	"fmt"
	"math"
	"math/rand"
	"runtime"
	"slices"
	"testing"

	"alidade/api"
	"alidade/atom"
	"alidade/budget"
	"alidade/eval"
	"alidade/logic"
	"alidade/nnf"
	"alidade/rat"
	"alidade/term"
	"alidade/whole"
)

const (
	mostNodes = 1 << 12
	mostDepth = 64
	mostVars  = 1 << 20
	mostRows  = 1 << 20
	mostLong  = 1 << 16
	lastVar   = mostVars - 1
	full      = math.MaxUint32
)

// formula is written often.
type formula = api.Formula

// linear is the term of a number, and of variables, each with its Coef behind it; they have to rise.
func linear(add int, l ...int) api.Term {
	t := api.Term{Add: whole.Of(add)}
	for ; len(l) > 0; l = l[2:] {
		t.Parts = append(t.Parts, api.Part{Var: l[0], Coef: whole.Of(l[1])})
	}
	return t
}

// leaf is an atom as a formula, made by hand.
func leaf(a api.Atom) formula { return formula{Op: api.Is, Atom: a} }

// le, lt, eq, div are atoms of linear terms, as formulas.
func le(add int, l ...int) formula { return leaf(api.Atom{Kind: api.Le, Term: linear(add, l...)}) }
func lt(add int, l ...int) formula { return leaf(api.Atom{Kind: api.Lt, Term: linear(add, l...)}) }
func eq(add int, l ...int) formula { return leaf(api.Atom{Kind: api.Eq, Term: linear(add, l...)}) }
func div(mod, add int, l ...int) formula {
	return leaf(api.Atom{Kind: api.Div, Term: linear(add, l...), Mod: whole.Of(mod)})
}

// x says of a variable that it is 0, or less; positive that it is 1, or more; zero that it is 0.
func x(v int) formula        { return le(0, v, 1) }
func positive(v int) formula { return le(1, v, -1) }
func zero(v int) formula     { return eq(0, v, 1) }

// These are made by hand, of whatever stands within.
func yes() formula                       { return formula{Op: api.True} }
func no() formula                        { return formula{Op: api.False} }
func not(f formula) formula              { return formula{Op: api.Not, Kids: []formula{f}} }
func and(l ...formula) formula           { return formula{Op: api.And, Kids: l} }
func or(l ...formula) formula            { return formula{Op: api.Or, Kids: l} }
func exists(f formula, l ...int) formula { return formula{Op: api.Exists, Vars: l, Kids: []formula{f}} }
func forall(f formula, l ...int) formula { return formula{Op: api.Forall, Vars: l, Kids: []formula{f}} }

// denied is a formula within so many Nots.
func denied(f formula, times int) formula {
	for range times {
		f = not(f)
	}
	return f
}

// each is what a call makes of so many numbers, from 0 on.
func each(many int, call func(k int) formula) []formula {
	var l []formula
	for k := range many {
		l = append(l, call(k))
	}
	return l
}

// logics are both.
func logics() []uint8 { return []uint8{api.Real, api.Whole} }

// above, below are the whole numbers of a natural's limbs.
func above(n ...uint32) api.Int { return api.Int{Limbs: n} }
func below(n ...uint32) api.Int { return api.Int{Neg: true, Limbs: n} }

// spell tells all that a formula has; none and nothing are told the same way.
func spell(f formula) string { return fmt.Sprint(f) }

// brief is a formula whose text is made only when it is told: how it begins and ends.
type brief formula

func (f brief) String() string {
	s := spell(formula(f))
	if len(s) > 400 {
		s = s[:200] + " .. " + s[len(s)-200:]
	}
	return s
}

// equal complains unless something is what is wanted.
func equal[T comparable](t *testing.T, got, want T, what ...any) {
	t.Helper()
	if got != want {
		t.Errorf("%s: got %v, want %v", fmt.Sprint(what...), got, want)
	}
}

// tells complains unless a formula is the one that is wanted, just so.
func tells(t *testing.T, got, want formula, what ...any) {
	t.Helper()
	if spell(got) != spell(want) {
		t.Errorf("%s: got %s, want %s", fmt.Sprint(what...), brief(got), brief(want))
	}
}

// widest is a meter of the widest budget.
func widest() *budget.Meter { return metered(budget.Widest()) }

// metered is a meter of a budget.
func metered(b api.Budget) *budget.Meter {
	m, e := budget.New(b)
	if e != api.OK {
		panic("no budget")
	}
	return m
}

// usedUp is a meter whose steps were used up before.
func usedUp() *budget.Meter {
	m := metered(api.Budget{Rows: mostRows, Limbs: mostLong})
	m.Pay(api.Atom{})
	return m
}

// of is what becomes of a formula, and what was spent for it, with the widest budget.
func of(t *testing.T, in uint8, f formula) (formula, api.Budget) {
	t.Helper()
	m := widest()
	g, e := nnf.Of(in, f, m)
	if e != api.OK {
		t.Errorf("refused: %v: %s", e, brief(f))
	}
	return g, m.Spent()
}

// becomes complains unless a formula becomes another one, in a logic.
func becomes(t *testing.T, in uint8, f, want formula, what ...any) {
	t.Helper()
	g, _ := of(t, in, f)
	tells(t, g, want, append([]any{"logic ", in, ", of ", brief(f), ": "}, what...)...)
}

// refuses complains unless Of tells an error, and nothing beside it.
func refuses(t *testing.T, want api.Errno, in uint8, f formula, m *budget.Meter, what ...any) {
	t.Helper()
	g, e := nnf.Of(in, f, m)
	equal(t, e, want, append([]any{"Of: "}, what...)...)
	tells(t, g, formula{}, append([]any{"Of, beside the error: "}, what...)...)
}

// A model goes by the words, Not by Not; denials are those of S5's text.

// modelDenials are the denials of a canonical atom.
func modelDenials(in uint8, a api.Atom) []api.Atom {
	t := a.Term
	turned := term.Scale(t, whole.Of(-1))
	plus := func(t api.Term, n int) api.Term { return term.Add(t, term.Num(whole.Of(n))) }
	less := func(t api.Term) api.Atom {
		if in == api.Whole {
			return api.Atom{Kind: api.Le, Term: plus(t, 1)}
		}
		return api.Atom{Kind: api.Lt, Term: t}
	}
	switch a.Kind {
	case api.Le:
		return []api.Atom{less(turned)}
	case api.Lt:
		return []api.Atom{{Kind: api.Le, Term: turned}}
	case api.Eq:
		return []api.Atom{less(t), less(turned)}
	}
	var l []api.Atom
	for k := 1; whole.Cmp(whole.Of(k), a.Mod) < 0; k++ {
		l = append(l, api.Atom{Kind: api.Div, Term: plus(t, k), Mod: a.Mod})
	}
	return l
}

// modelAtom is what becomes of an atom, which is paid.
func modelAtom(in uint8, a api.Atom, spent *api.Budget) formula {
	c, truth, _ := atom.Canon(in, a)
	switch truth {
	case atom.Yes:
		return yes()
	case atom.No:
		return no()
	}
	spent.Steps++
	for _, p := range c.Term.Parts {
		spent.Limbs = max(spent.Limbs, len(p.Coef.Limbs))
	}
	spent.Limbs = max(spent.Limbs, len(c.Term.Add.Limbs), len(c.Mod.Limbs))
	return leaf(c)
}

// model is what becomes of a plain formula, for which is paid.
func model(in uint8, f formula, spent *api.Budget) formula {
	var l []formula
	switch f.Op {
	case api.Is:
		return modelAtom(in, f.Atom, spent)
	case api.Not:
		return modelNot(in, f.Kids[0], spent)
	case api.And, api.Or:
		for _, kid := range f.Kids {
			l = append(l, model(in, kid, spent))
		}
		if f.Op == api.And {
			return logic.And(l)
		}
		return logic.Or(l)
	}
	return f
}

// modelNot is what becomes of a formula's Not.
func modelNot(in uint8, f formula, spent *api.Budget) formula {
	var l []formula
	switch f.Op {
	case api.True:
		return no()
	case api.False:
		return yes()
	case api.Not:
		return model(in, f.Kids[0], spent)
	case api.Is:
		c, truth, _ := atom.Canon(in, f.Atom)
		switch truth {
		case atom.Yes:
			return no()
		case atom.No:
			return yes()
		}
		denials := modelDenials(in, c)
		spent.Rows = max(spent.Rows, len(denials))
		for _, d := range denials {
			l = append(l, modelAtom(in, d, spent))
		}
		return logic.Or(l)
	}
	for _, kid := range f.Kids {
		l = append(l, model(in, not(kid), spent))
	}
	if f.Op == api.And {
		return logic.Or(l)
	}
	return logic.And(l)
}

// goesByModel complains unless a formula becomes what the model has it, for what the model pays.
func goesByModel(t *testing.T, in uint8, f formula) formula {
	t.Helper()
	var wantSpent api.Budget
	want := model(in, f, &wantSpent)
	g, spent := of(t, in, f)
	tells(t, g, want, "logic ", in, ", of ", brief(f))
	equal(t, spent, wantSpent, "what was spent, logic ", in, ", for ", brief(f))
	return g
}

// pick is one of a list.
func pick[T any](r *rand.Rand, l []T) T { return l[r.Intn(len(l))] }

// madeAtom is an atom of a few variables, that may be in a logic.
func madeAtom(r *rand.Rand, in uint8) api.Atom {
	a := api.Atom{Kind: uint8(r.Intn(3)), Term: api.Term{Add: whole.Of(r.Intn(9) - 4)}}
	if in == api.Whole && r.Intn(3) == 0 {
		a.Kind, a.Mod = api.Div, whole.Of(1+r.Intn(6))
	}
	for v := range 3 {
		if coef := r.Intn(9) - 4; coef != 0 && r.Intn(2) == 0 {
			a.Term.Parts = append(a.Term.Parts, api.Part{Var: v, Coef: whole.Of(coef)})
		}
	}
	return a
}

// made is a formula without quantifiers of a few variables, no deeper than that.
func made(r *rand.Rand, in uint8, deep int) formula {
	op := pick(r, []uint8{api.True, api.False, api.Is, api.Is, api.Is, api.Not, api.Not, api.And, api.And, api.Or, api.Or})
	if deep == 1 && op > api.Is {
		op = api.Is
	}
	f := formula{Op: op}
	kids := 1
	switch op {
	case api.True, api.False:
		kids = 0
	case api.Is:
		f.Atom, kids = madeAtom(r, in), 0
	case api.And, api.Or:
		kids = r.Intn(4)
	}
	for range kids {
		f.Kids = append(f.Kids, made(r, in, deep-1))
	}
	return f
}

// some hands formulas of a logic, of a fixed seed, to a test.
func some(in uint8, seed int64, many int, test func(r *rand.Rand, f formula)) {
	r := rand.New(rand.NewSource(seed))
	for range many {
		test(r, made(r, in, 1+r.Intn(7)))
	}
}

// short are all short formulas over a few atoms of a logic.
func short(in uint8) []formula {
	l := []formula{yes(), no(), x(0), eq(2, 0, -2, 1, 4), lt(1, 1, 1), le(0)}
	if in == api.Whole {
		l = append(l, div(4, 2, 0, 2, 1, 6))
	}
	leaves := len(l)
	for range 2 {
		kids := l
		l = slices.Clone(kids[:leaves])
		for _, op := range []uint8{api.And, api.Or} {
			l = append(l, formula{Op: op})
			for _, kid := range kids {
				l = append(l, formula{Op: op, Kids: []formula{kid}})
				for _, other := range kids {
					l = append(l, formula{Op: op, Kids: []formula{kid, other}})
				}
			}
		}
		for _, kid := range kids {
			l = append(l, not(kid))
		}
	}
	return l
}

// values are a logic's values for three variables, one list after the other.
func values(in uint8) [][]api.Rat {
	numbers := []api.Rat{rat.Int(-3), rat.Int(-2), rat.Int(-1), rat.Int(0), rat.Int(1), rat.Int(2), rat.Int(3)}
	if in == api.Real {
		for _, n := range []int{-3, -1, 1} {
			half, _ := rat.Make(whole.Of(n), whole.Of(2))
			third, _ := rat.Make(whole.Of(n+1), whole.Of(3))
			numbers = append(numbers, half, third)
		}
	}
	var l [][]api.Rat
	for _, a := range numbers {
		for _, b := range numbers {
			for _, c := range numbers {
				l = append(l, []api.Rat{a, b, c})
			}
		}
	}
	return l
}

// truth is whether a formula is true by values.
func truth(t *testing.T, in uint8, f formula, values []api.Rat) bool {
	t.Helper()
	is, e := eval.Truth(in, f, values)
	if e != api.OK {
		t.Errorf("Truth: refused: %v: %s", e, brief(f))
	}
	return is
}

// TestExamples are those of the chapter, and of the document.
func TestExamples(t *testing.T) {
	f := not(and(x(0), not(zero(1))))
	becomes(t, api.Real, f, or(lt(0, 0, -1), zero(1)))
	becomes(t, api.Whole, f, or(positive(0), zero(1)))
	for _, in := range logics() {
		g, _ := of(t, in, f)
		equal(t, nnf.Is(in, g), true, "Is of what it becomes")
		equal(t, nnf.Is(in, f), false, "Is of what it was")
		refuses(t, api.ErrForm, in, exists(x(0), 0), widest(), "there is")
	}
	becomes(t, api.Whole, not(eq(-1, 0, 2)), yes())
	becomes(t, api.Whole, not(div(3, 0, 0, 1)), or(div(3, 1, 0, 1), div(3, 2, 0, 1)))
}

// P19.1, S2, S5: atoms of each kind, canonical or not, by themselves, denied, and denied twice, with what is paid for them.
func TestP19_1Atoms(t *testing.T) {
	for _, c := range []struct {
		in           uint8
		f, is, isNot formula
	}{
		{api.Real, x(0), x(0), lt(0, 0, -1)},
		{api.Real, le(4, 0, 2, 1, -6), le(2, 0, 1, 1, -3), lt(-2, 0, -1, 1, 3)},
		{api.Real, le(3, 0, 2), le(3, 0, 2), lt(-3, 0, -2)},
		{api.Real, lt(-5, 3, -1), lt(-5, 3, -1), le(5, 3, 1)},
		{api.Real, lt(9, 3, -6), lt(3, 3, -2), le(-3, 3, 2)},
		{api.Real, zero(7), zero(7), or(lt(0, 7, 1), lt(0, 7, -1))},
		{api.Real, eq(3, 0, 2), eq(3, 0, 2), or(lt(3, 0, 2), lt(-3, 0, -2))},
		{api.Real, eq(6, 0, -3, 1, 9), eq(-2, 0, 1, 1, -3), or(lt(-2, 0, 1, 1, -3), lt(2, 0, -1, 1, 3))},
		{api.Whole, x(0), x(0), positive(0)},
		{api.Whole, le(3, 0, 2), le(2, 0, 1), le(-1, 0, -1)},
		{api.Whole, le(-7, 0, 3, lastVar, -6), le(-2, 0, 1, lastVar, -2), le(3, 0, -1, lastVar, 2)},
		{api.Whole, le(-7, 0, 3, 5, 2), le(-7, 0, 3, 5, 2), le(8, 0, -3, 5, -2)},
		{api.Whole, lt(3, 0, 2), le(2, 0, 1), le(-1, 0, -1)},
		{api.Whole, lt(0, 0, 1), le(1, 0, 1), le(0, 0, -1)},
		{api.Whole, lt(-4, 0, -2, 1, 4), le(-1, 0, -1, 1, 2), le(2, 0, 1, 1, -2)},
		{api.Whole, zero(0), zero(0), or(le(1, 0, 1), positive(0))},
		{api.Whole, eq(6, 0, -3), eq(-2, 0, 1), or(le(-1, 0, 1), le(3, 0, -1))},
		{api.Whole, eq(1, 0, 2, 1, -3), eq(1, 0, 2, 1, -3), or(le(2, 0, 2, 1, -3), le(0, 0, -2, 1, 3))},
		{api.Whole, div(2, 0, 0, 1), div(2, 0, 0, 1), div(2, 1, 0, 1)},
		{api.Whole, div(2, 1, 0, 1), div(2, 1, 0, 1), div(2, 0, 0, 1)},
		{api.Whole, div(2, 1, 0, -3, 1, 2), div(2, 1, 0, 1), div(2, 0, 0, 1)},
		{api.Whole, div(4, 2, 0, 6), div(2, 1, 0, 1), div(2, 0, 0, 1)},
		{api.Whole, div(3, 1, 0, 2), div(3, 1, 0, 2), or(div(3, 2, 0, 2), div(3, 0, 0, 2))},
		{api.Whole, div(9, 12, 0, 15, 4, -3), div(3, 1, 0, 2, 4, 2), or(div(3, 2, 0, 2, 4, 2), div(3, 0, 0, 2, 4, 2))},
		{api.Whole, div(5, 3, 2, 1), div(5, 3, 2, 1), or(div(5, 4, 2, 1), div(5, 0, 2, 1), div(5, 1, 2, 1), div(5, 2, 2, 1))},
	} {
		many := max(1, len(c.isNot.Kids))
		for times := range 5 {
			want, wantSpent := c.is, api.Budget{Steps: 1, Limbs: 1}
			if times%2 == 1 {
				want, wantSpent = c.isNot, api.Budget{Steps: many, Rows: many, Limbs: 1}
			}
			f := denied(c.f, times)
			g, spent := of(t, c.in, f)
			tells(t, g, want, "logic ", c.in, ", of ", spell(f))
			equal(t, spent, wantSpent, "what was spent, logic ", c.in, ", for ", spell(f))
			goesByModel(t, c.in, f)
		}
	}
}

// P19.1: atoms that come to true, or to false, are not paid, and are in nothing that is told.
func TestP19_1Settled(t *testing.T) {
	for _, c := range []struct {
		in uint8
		f  formula
		is bool
	}{
		{api.Real, le(0), true}, {api.Real, le(-1), true}, {api.Real, le(1), false}, {api.Real, lt(0), false}, {api.Real, lt(-1), true}, {api.Real, eq(0), true}, {api.Real, eq(-2), false},
		{api.Whole, le(0), true}, {api.Whole, le(1), false}, {api.Whole, lt(0), false}, {api.Whole, lt(-1), true}, {api.Whole, eq(0), true}, {api.Whole, eq(3), false},
		{api.Whole, eq(1, 0, 2), false}, {api.Whole, eq(-7, 0, 6, 1, 9), false},
		{api.Whole, div(3, 6), true}, {api.Whole, div(3, 7), false}, {api.Whole, div(1, 7), true},
		{api.Whole, div(1, 0, 0, 1), true}, {api.Whole, div(1, 5, 0, -7, 3, 4), true}, {api.Whole, div(3, 6, 0, 3, 1, -9), true}, {api.Whole, div(3, 1, 0, 3, 1, -9), false}, {api.Whole, div(4, 1, 0, 2), false},
		{api.Real, yes(), true}, {api.Real, no(), false}, {api.Whole, yes(), true}, {api.Whole, no(), false},
		{api.Real, and(), true}, {api.Whole, or(), false},
	} {
		as := func(is bool) formula {
			if is {
				return yes()
			}
			return no()
		}
		for times := range 4 {
			f, is := denied(c.f, times), c.is != (times%2 == 1)
			g, spent := of(t, c.in, f)
			tells(t, g, as(is), "logic ", c.in, ", of ", spell(f))
			equal(t, spent, api.Budget{}, "what was spent for ", spell(f))
			one := api.Budget{Steps: 1, Limbs: 1}
			for k, within := range []struct{ f, ifYes, ifNo formula }{
				{and(f), yes(), no()}, {or(f), yes(), no()}, {not(and(f)), no(), yes()},
				{and(f, x(0)), x(0), no()}, {and(x(0), f), x(0), no()}, {or(f, x(0)), yes(), x(0)}, {or(x(0), f), yes(), x(0)},
				{and(f, x(0), f), x(0), no()}, {or(x(0), and(f, f)), yes(), x(0)}, {not(or(not(x(0)), f)), no(), x(0)},
			} {
				want := within.ifNo
				if is {
					want = within.ifYes
				}
				g, spent := of(t, c.in, within.f)
				tells(t, g, want, "within ", k, ": logic ", c.in, ", of ", spell(f))
				// What is settled by another kid is paid all the same.
				if k > 2 {
					equal(t, spent, one, "what was spent, within ", k, ", for ", spell(f))
				}
			}
		}
	}
}

// P19.1, S5: And, Or and Not, also of nothing, of one, and each within the other.
func TestP19_1Ops(t *testing.T) {
	a, b, c, d := x(0), zero(1), le(-3, 2, 1, 3, 2), lt(1, 4, 1)
	aNot, cNot, dNot := lt(0, 0, -1), lt(3, 2, -1, 3, -2), le(-1, 4, -1)
	bLess, bMore := lt(0, 1, 1), lt(0, 1, -1)
	for _, k := range []struct{ f, want formula }{
		{yes(), yes()}, {no(), no()}, {not(yes()), no()}, {not(no()), yes()}, {denied(yes(), 2), yes()}, {denied(no(), 63), yes()},
		{and(), yes()}, {or(), no()}, {not(and()), no()}, {not(or()), yes()},
		{and(a), a}, {or(a), a}, {not(and(a)), aNot}, {not(or(a)), aNot}, {not(not(and(a))), a},
		{and(a, b), and(a, b)}, {or(a, b), or(a, b)}, {and(b, a), and(b, a)}, {and(a, a), and(a, a)},
		{and(a, b, c, d), and(a, b, c, d)}, {or(a, b, c, d), or(a, b, c, d)},
		{not(and(a, c, d)), or(aNot, cNot, dNot)}, {not(or(a, c, d)), and(aNot, cNot, dNot)},
		{not(and(a, b)), or(aNot, bLess, bMore)}, {not(or(a, b)), and(aNot, or(bLess, bMore))}, {not(b), or(bLess, bMore)},
		{and(and(a, b), c), and(a, b, c)}, {and(a, and(b, c)), and(a, b, c)}, {and(and(a), and(and(b, c), d)), and(a, b, c, d)},
		{or(or(a, b), c), or(a, b, c)}, {or(a, or(or(b, c)), d), or(a, b, c, d)},
		{and(or(a, b), or(c, d)), and(or(a, b), or(c, d))}, {or(and(a, b), and(c, d)), or(and(a, b), and(c, d))},
		{and(a, not(or(c, d))), and(a, cNot, dNot)}, {and(not(or(c, d)), not(not(and(a, b)))), and(cNot, dNot, a, b)},
		{or(a, not(and(c, d))), or(a, cNot, dNot)}, {or(a, not(b), c), or(a, bLess, bMore, c)}, {and(a, not(b), c), and(a, or(bLess, bMore), c)},
		{not(and(or(a, c), not(d))), or(and(aNot, cNot), d)}, {not(or(and(a, c), not(d))), and(or(aNot, cNot), d)},
		{not(and(not(or(a, not(c))), d)), or(a, cNot, dNot)}, {not(not(not(or(a, and(c, d))))), and(aNot, or(cNot, dNot))},
		{and(or(and(or(a, c)))), or(a, c)}, {and(or(a), or(c)), and(a, c)}, {or(and(a, yes()), no()), a}, {and(a, or(c, no()), yes()), and(a, c)},
		{and(a, or(b, yes()), c), and(a, c)}, {or(a, and(b, no()), c), or(a, c)}, {or(and(a, b), not(or(no(), yes()))), and(a, b)},
		{and(a, no(), b), no()}, {or(a, yes(), b), yes()}, {not(and(a, no())), yes()}, {not(or(a, yes())), no()},
		{denied(a, 62), a}, {denied(a, 63), aNot}, {denied(b, 63), or(bLess, bMore)}, {denied(and(a, c), 61), or(aNot, cNot)},
	} {
		becomes(t, api.Real, k.f, k.want)
		for _, in := range logics() {
			goesByModel(t, in, k.f)
		}
	}
}

// P19.1: all short formulas, and others of a fixed seed, against the model.
func TestP19_1Model(t *testing.T) {
	for _, in := range logics() {
		for _, f := range short(in) {
			goesByModel(t, in, f)
		}
		some(in, 191, 20000, func(r *rand.Rand, f formula) {
			goesByModel(t, in, f)
			goesByModel(t, in, not(f))
		})
	}
}

// P19.1, S5: a Div that is denied has one denial less than its Mod, when it is canonical.
func TestP19_1Mods(t *testing.T) {
	becomes(t, api.Whole, not(div(1, 3, 0, 1)), no())
	becomes(t, api.Whole, not(div(2, 0, 0, 1)), div(2, 1, 0, 1))
	becomes(t, api.Whole, not(div(12, 12, 0, 6)), div(2, 1, 0, 1))
	for _, mod := range []int{3, 4, 10, 97, 1000, mostNodes - 1, mostNodes} {
		paid := api.Budget{Steps: mod - 1, Rows: mod - 1, Limbs: 1}
		g, spent := of(t, api.Whole, not(div(mod, 0, 0, 1)))
		tells(t, g, or(each(mod-1, func(k int) formula { return div(mod, k+1, 0, 1) })...), "not ", mod, " divides x")
		equal(t, spent, paid, "what was spent, for ", mod)
		g, spent = of(t, api.Whole, not(div(6*mod, 12, 0, 6)))
		tells(t, g, or(each(mod-1, func(k int) formula { return div(mod, (k+3)%mod, 0, 1) })...), "not ", 6*mod, " divides 6x + 12")
		equal(t, spent, paid, "what was spent, for ", 6*mod)
	}
}

// P19.1: a Mod that is too great asks for more rows, or more nodes, than there may be, but where the Div has a less one, canonical.
func TestP19_1GreatMods(t *testing.T) {
	for k, c := range []struct {
		mod  api.Int
		rows int // that are told; 0: those are too many
	}{
		{whole.Of(mostNodes + 1), mostNodes}, {whole.Of(mostRows), mostRows - 1}, {whole.Of(mostRows + 1), mostRows}, {whole.Of(mostRows + 2), 0},
		{whole.Of(math.MaxInt), 0}, {above(0, 1), 0}, {above(1, 1), 0}, {above(0, 0, 1), 0}, {above(5, 0, 1), 0}, {above(slices.Repeat([]uint32{full}, 40)...), 0}, {above(slices.Repeat([]uint32{full}, mostLong)...), 0},
	} {
		d := leaf(api.Atom{Kind: api.Div, Term: linear(0, 0, 1), Mod: c.mod})
		for n, f := range []formula{not(d), and(not(d), x(1)), or(x(1), not(d)), not(and(d, x(1))), denied(d, 63), and(not(not(d)), or(not(d)))} {
			m := widest()
			refuses(t, api.ErrBudget, api.Whole, f, m, "mod ", k, ", within ", n)
			equal(t, m.Spent().Rows, c.rows, "rows that were told of mod ", k, ", within ", n)
			part, most, is := budget.Part(m.Why())
			equal(t, is, c.rows == 0, "whether a part is used up by mod ", k, ", within ", n)
			if is {
				equal(t, part, "rows", "what is used up by mod ", k, ", within ", n)
				equal(t, most, mostRows, "how much there was, for mod ", k, ", within ", n)
			}
		}
		if f := leaf(d.Atom); len(c.mod.Limbs) < 50 {
			becomes(t, api.Whole, f, f)
			becomes(t, api.Whole, not(not(f)), f)
		}
	}
	// 3 times 2^128 divides 2^128 x + 2^129.
	long := leaf(api.Atom{Kind: api.Div, Term: api.Term{Parts: []api.Part{{Var: 0, Coef: above(0, 0, 0, 0, 1)}}, Add: above(0, 0, 0, 0, 2)}, Mod: above(0, 0, 0, 0, 3)})
	becomes(t, api.Whole, not(long), or(div(3, 0, 0, 1), div(3, 1, 0, 1)))
	// A Mod of two limbs divides no numbers but its multiples, and of those all.
	becomes(t, api.Whole, not(leaf(api.Atom{Kind: api.Div, Term: api.Term{Add: above(0, 7)}, Mod: above(0, 7)})), no())
	becomes(t, api.Whole, not(leaf(api.Atom{Kind: api.Div, Term: api.Term{Add: above(1, 7)}, Mod: above(0, 7)})), yes())
}

// canonicalAtoms are canonical atoms of a logic.
func canonicalAtoms(in uint8) []formula {
	l := []formula{x(0), positive(3), le(-3, 0, 2, 1, 5), zero(lastVar), eq(-2, 0, 1, 1, -3), eq(1, 0, 2, 1, 3)}
	if in == api.Real {
		return append(l, le(3, 0, 2), lt(0, 0, 1), lt(5, 0, -2, 7, 4), eq(3, 0, 2))
	}
	return append(l, div(2, 0, 0, 1), div(3, 2, 1, 1), div(6, 5, 0, 2, 1, 3))
}

// otherAtoms are atoms that are not.
func otherAtoms(in uint8) []formula {
	l := []formula{le(0), le(5), lt(-1), eq(0), eq(1), le(4, 0, 2), lt(4, 0, 2), zeroTimes(-1), zeroTimes(2), eq(-2, 0, -1, 1, 3), eq(9, 1, 3, 2, -6)}
	if in == api.Real {
		return append(l, div(2, 0, 0, 1), div(1, 0), div(3, 2, 1, 1), le(0, 0, 3), lt(0, 0, 3))
	}
	return append(l, lt(0, 0, 1), le(3, 0, 2), eq(3, 0, 2), div(2, 0), div(1, 0, 0, 1), div(2, 2, 0, 1), div(2, -1, 0, 1), div(2, 0, 0, 3), div(2, 0, 0, -1), div(4, 2, 0, 2), div(3, 0, 0, 1, 1, 3))
}

// zeroTimes says that a variable, so many times, is 0.
func zeroTimes(n int) formula { return eq(0, 0, n) }

// P19.2: what is without denials, and what is not, for each reason.
func TestP19_2Is(t *testing.T) {
	for _, in := range logics() {
		isSo := func(want bool, l ...formula) {
			for _, f := range l {
				equal(t, nnf.Is(in, f), want, "logic ", in, ": Is of ", brief(f))
			}
		}
		isSo(true, yes(), no())
		for _, a := range canonicalAtoms(in) {
			b := positive(9)
			isSo(true, a, and(a, b), or(b, a), and(a, a), or(a, a, b), and(b, or(a, b), or(a, a, b)), or(and(b, b), a, and(a, b)), and(b, or(b, and(b, a))))
			isSo(false, not(a), not(not(a)), and(a), or(a), and(a, not(b)), or(not(a), b), and(a, or(a)), or(b, and(), a), and(and(a, b), b), and(b, and(a, b)), or(a, or(a, b)), or(or(a, b), or(a, b)))
			isSo(false, and(a, yes()), and(no(), a), or(a, yes()), or(no(), a), and(a, b, or(a, no())), or(and(yes(), b), a), and(b, or(b, and(b, not(a)))), and(b, or(b, and(b, and(b, a)))))
			isSo(false, exists(a, 0), forall(a, 0), exists(a, 77), and(a, exists(b, 9)), or(forall(a, 0), b), exists(yes(), 0), forall(no(), 0))
			isSo(false, formula{Op: api.And, Vars: []int{1}, Kids: []formula{a, b}}, formula{Op: api.Is, Atom: a.Atom, Kids: []formula{b}}, formula{Op: 8, Kids: []formula{a, b}}, or(a, formula{Op: api.Or, Atom: a.Atom, Kids: []formula{a, b}}))
		}
		for _, a := range otherAtoms(in) {
			b := x(9)
			isSo(false, a, not(a), and(a, b), and(b, a), or(a, b), or(b, a), and(b, or(b, a)), or(and(a, b), b), and(b, or(b, and(b, a))))
		}
		isSo(false, and(), or(), not(yes()), not(no()), and(yes()), or(no()), and(yes(), yes()), or(no(), no()), or(and(), or()))
		for _, f := range wrongFormulas() {
			isSo(false, f, not(f), and(x(0), f), or(f, x(0)), and(x(0), or(x(1), f)))
		}
		for _, none := range []uint8{2, 3, 7, 127, 128, 254, 255} {
			for _, f := range append(canonicalAtoms(in), yes(), no(), and(x(0), x(1)), not(x(0)), formula{Op: 99}) {
				equal(t, nnf.Is(none, f), false, "logic ", none, ": Is of ", brief(f))
			}
		}
	}
	for _, f := range []formula{le(3, 0, 2), eq(3, 0, 2), lt(0, 0, 1), or(x(0), lt(1, 1, 1))} {
		equal(t, nnf.Is(api.Real, f), true, "Real: Is of ", spell(f))
		equal(t, nnf.Is(api.Whole, f), false, "Whole: Is of ", spell(f))
	}
}

// P19.2: formulas of as many nodes, and as deep, as may be, and of more.
func TestP19_2Most(t *testing.T) {
	for _, in := range logics() {
		equal(t, nnf.Is(in, and(each(mostNodes-1, x)...)), true, "as many nodes as may be")
		equal(t, nnf.Is(in, and(each(mostNodes, x)...)), false, "one node more")
		equal(t, nnf.Is(in, and(append(each(mostNodes-2, x), not(x(0)))...)), false, "as many nodes as may be, and a Not")
		equal(t, nnf.Is(in, ladder(mostDepth, x(0))), true, "as deep as may be")
		equal(t, nnf.Is(in, ladder(mostDepth, yes())), false, "as deep as may be, and True")
		equal(t, nnf.Is(in, ladder(mostDepth+1, x(0))), false, "one deeper")
		equal(t, nnf.Is(in, noEnd()), false, "without an end")
	}
}

// ladder is a formula so deep, And and Or by turns, with one deep down.
func ladder(deep int, f formula) formula {
	for k := range deep - 1 {
		f = formula{Op: api.And + uint8(k%2), Kids: []formula{x(k), f}}
	}
	return f
}

// noEnd is a formula that has itself among its kids.
func noEnd() formula {
	f := and(yes(), no())
	f.Kids[0] = not(yes())
	f.Kids[0].Kids[0] = formula{Op: api.And, Kids: f.Kids}
	return f
}

// P19.2: Atom is Of of the atom alone, with what is paid, and with what is refused.
func TestP19_2Atom(t *testing.T) {
	for _, in := range logics() {
		for _, f := range append(append(canonicalAtoms(in), otherAtoms(in)...), wrongAtoms()...) {
			for k, b := range []api.Budget{budget.Widest(), {Steps: 1, Limbs: 1}, {Steps: 1}, {Limbs: 1}, {}} {
				m, n := metered(b), metered(b)
				g, e := nnf.Atom(in, f.Atom, m)
				h, e2 := nnf.Of(in, f, n)
				tells(t, g, h, "Atom, logic ", in, ", budget ", k, ", of ", brief(f))
				equal(t, e, e2, "Atom's error, logic ", in, ", budget ", k, ", of ", brief(f))
				equal(t, m.Spent(), n.Spent(), "what Atom spent, logic ", in, ", budget ", k, ", for ", brief(f))
			}
		}
	}
	for k, c := range []struct {
		in   uint8
		f    formula
		m    *budget.Meter
		want formula
		e    api.Errno
	}{
		{api.Real, le(4, 0, 2), widest(), le(2, 0, 1), api.OK}, {api.Whole, lt(0, 0, 1), widest(), le(1, 0, 1), api.OK},
		{api.Whole, le(0), widest(), yes(), api.OK}, {api.Whole, eq(1, 0, 2), widest(), no(), api.OK}, {api.Whole, div(4, 2, 0, 2), widest(), div(2, 1, 0, 1), api.OK},
		{api.Whole, x(0), nil, formula{}, api.ErrNil}, {2, x(0), widest(), formula{}, api.ErrArg}, {api.Whole, div(0, 0, 0, 1), widest(), formula{}, api.ErrForm},
		{api.Real, div(2, 0, 0, 1), widest(), formula{}, api.ErrSort}, {api.Real, x(0), usedUp(), formula{}, api.ErrBudget},
		{9, div(0, 0), nil, formula{}, api.ErrNil}, {9, div(0, 0), widest(), formula{}, api.ErrArg}, {api.Real, div(0, 0), widest(), formula{}, api.ErrForm}, {api.Real, div(2, 0), usedUp(), formula{}, api.ErrSort},
	} {
		g, e := nnf.Atom(c.in, c.f.Atom, c.m)
		tells(t, g, c.want, "Atom, case ", k)
		equal(t, e, c.e, "Atom, case ", k)
	}
}

// P19.3, P19.5: what it becomes is true by just those values by which the formula is, and what its Not becomes by the others.
func TestP19_3Meaning(t *testing.T) {
	for _, in := range logics() {
		grid := values(in)
		check := func(r *rand.Rand, f formula, many int) {
			g, _ := of(t, in, f)
			h, _ := of(t, in, not(f))
			for range many {
				v := pick(r, grid)
				is := truth(t, in, f, v)
				if truth(t, in, g, v) != is || truth(t, in, h, v) == is {
					t.Errorf("logic %d, by %v: %s is %v, but it becomes %s, and its Not %s", in, v, brief(f), is, brief(g), brief(h))
				}
			}
		}
		some(in, 193, 2500, func(r *rand.Rand, f formula) { check(r, f, 20) })
		r := rand.New(rand.NewSource(195))
		for range 2000 {
			check(r, leaf(madeAtom(r, in)), 40)
		}
	}
}

// P19.4: what is told is without denials, of what is it is the formula itself, and of nothing else; no variables are new; it is no deeper.
func TestP19_4WithoutDenials(t *testing.T) {
	for _, in := range logics() {
		check := func(f formula) {
			g, _ := of(t, in, f)
			equal(t, nnf.Is(in, g), true, "Is of what ", brief(f), " becomes")
			equal(t, nnf.Is(in, f), spell(f) == spell(g), "Is of ", brief(f))
			tells(t, goesByModel(t, in, g), g, "once more: ", brief(f))
			free := logic.Free(f)
			for _, v := range logic.Free(g) {
				_, has := slices.BinarySearch(free, v)
				equal(t, has, true, "variable ", v, " of what ", brief(f), " becomes")
			}
			equal(t, logic.Depth(g) <= logic.Depth(f), true, "no deeper: ", brief(f))
		}
		for _, f := range short(in) {
			check(f)
		}
		some(in, 194, 10000, func(r *rand.Rand, f formula) { check(f) })
		// Formulas that are without denials are seldom met by chance.
		r := rand.New(rand.NewSource(196))
		for range 2000 {
			f := bare(r, in, 1+r.Intn(6), api.And+uint8(r.Intn(2)))
			equal(t, nnf.Is(in, f), true, "Is of ", brief(f))
			becomes(t, in, f, f)
			check(spoiled(r, f))
		}
	}
}

// bare is a formula without denials, of an Op, or an atom.
func bare(r *rand.Rand, in uint8, deep int, op uint8) formula {
	if deep == 1 {
		return pick(r, canonicalAtoms(in))
	}
	f := formula{Op: op}
	for range 2 + r.Intn(2) {
		f.Kids = append(f.Kids, bare(r, in, 1+r.Intn(deep-1), api.And+api.Or-op))
	}
	return f
}

// spoiled is a formula in which something is done to one node.
func spoiled(r *rand.Rand, f formula) formula {
	if len(f.Kids) > 0 && r.Intn(3) > 0 {
		f.Kids = slices.Clone(f.Kids)
		k := r.Intn(len(f.Kids))
		f.Kids[k] = spoiled(r, f.Kids[k])
		return f
	}
	return pick(r, []formula{not(f), and(f), or(f), yes(), no(), le(2, 0, 2), and(f, yes()), or(f, f), and(f, f), and(f, x(0)), or(x(0), f)})
}

// wrongAtoms are atoms that may not be, as formulas.
func wrongAtoms() []formula {
	good := linear(0, 0, 1)
	wrongInts := []api.Int{{Neg: true}, {Limbs: []uint32{0}}, {Limbs: []uint32{5, 0}}, {Neg: true, Limbs: []uint32{0}}, {Limbs: slices.Repeat([]uint32{1}, mostLong+1)}}
	l := []api.Atom{
		{Kind: 4, Term: good}, {Kind: 255}, {Kind: api.Div, Term: good}, {Kind: api.Div, Term: good, Mod: whole.Of(-2)}, {Term: good, Mod: whole.Of(1)}, {Kind: api.Eq, Mod: whole.Of(2)}, {Kind: api.Lt, Mod: whole.Of(-1)},
		{Term: linear(0, -1, 1)}, {Term: linear(0, mostVars, 1)}, {Term: linear(0, 1, 1, 0, 1)}, {Term: linear(0, 1, 1, 1, 1)}, {Term: linear(0, 0, 0)}, {Kind: api.Div, Term: linear(1, 3, 0), Mod: whole.Of(2)},
	}
	for _, n := range wrongInts {
		l = append(l, api.Atom{Term: api.Term{Add: n}}, api.Atom{Term: api.Term{Parts: []api.Part{{Var: 0, Coef: n}}}}, api.Atom{Kind: api.Div, Term: good, Mod: n}, api.Atom{Kind: api.Eq, Term: good, Mod: n})
	}
	var out []formula
	for _, a := range l {
		out = append(out, leaf(a))
	}
	return out
}

// wrongFormulas are formulas that may not be.
func wrongFormulas() []formula {
	a := x(0)
	l := []formula{
		{Op: 8}, {Op: 9, Kids: []formula{a}}, {Op: 255}, {Op: api.Not}, {Op: api.Not, Kids: []formula{a, a}}, {Op: api.Exists, Vars: []int{0}}, {Op: api.Forall, Vars: []int{0}, Kids: []formula{a, a}},
		exists(a), forall(a), exists(a, -1), forall(a, mostVars), exists(a, 1, 1), {Op: api.True, Kids: []formula{a}}, {Op: api.False, Vars: []int{0}}, {Op: api.True, Atom: a.Atom}, {Op: api.False, Atom: api.Atom{Kind: api.Eq}},
		{Op: api.Is, Atom: a.Atom, Kids: []formula{a}}, {Op: api.Is, Atom: a.Atom, Vars: []int{0}}, {Op: api.And, Vars: []int{0}}, {Op: api.And, Atom: a.Atom}, {Op: api.Or, Atom: api.Atom{Mod: whole.Of(1)}, Kids: []formula{a}},
		denied(a, mostDepth), ladder(mostDepth+1, a), and(each(mostNodes, x)...), noEnd(),
	}
	return append(l, wrongAtoms()...)
}

// around are formulas that have another one within them.
func around(f formula) []formula {
	return []formula{f, not(f), and(f), or(f), and(no(), f), or(yes(), f), and(f, no()), or(f, x(1)), not(and(x(1), not(f))), or(and(not(or(f, no()))), yes())}
}

// TestErrors holds each row of the table against the rows behind it.
func TestErrors(t *testing.T) {
	quantified := []formula{exists(x(0), 0), forall(yes(), 3), exists(x(1), 0), exists(forall(x(0), 0), 1), exists(div(2, 0, 0, 1), 0), forall(not(div(mostNodes+1, 0, 0, 1)), 0)}
	divs := []formula{div(2, 0, 0, 1), div(1, 0), div(3, 3), div(1, 0, 0, 1), div(mostNodes+1, 0, 0, 1), div(math.MaxInt, 0, lastVar, 1)}
	fine := []formula{x(0), yes(), eq(3, 0, 2)}
	within := func(lists ...[]formula) (l []formula) {
		for _, f := range slices.Concat(lists...) {
			l = append(l, around(f)...)
		}
		return l
	}
	for k, f := range within(fine, divs, quantified, wrongFormulas()) {
		for _, in := range []uint8{api.Real, api.Whole, 2, 255} {
			refuses(t, api.ErrNil, in, f, nil, "no meter, logic ", in, ", formula ", k)
		}
		for _, in := range []uint8{2, 3, 4, 7, 127, 128, 254, 255} {
			for _, m := range []*budget.Meter{widest(), usedUp()} {
				was := m.Spent()
				refuses(t, api.ErrArg, in, f, m, "logic ", in, ", formula ", k)
				equal(t, m.Spent(), was, "what was spent, logic ", in, ", formula ", k)
			}
		}
	}
	for k, f := range within(quantified, wrongFormulas(), []formula{and(div(2, 0), exists(x(0), 0)), or(formula{Op: 99}, div(2, 0, 0, 1))}) {
		for _, in := range logics() {
			for _, m := range []*budget.Meter{widest(), usedUp()} {
				was := m.Spent()
				refuses(t, api.ErrForm, in, f, m, "logic ", in, ", formula ", k, " that may not be")
				equal(t, m.Spent(), was, "what was spent, logic ", in, ", formula ", k, " that may not be")
			}
		}
	}
	most := and(append(each(mostNodes-2, x), div(2, 0, 0, 1))...)
	for k, f := range within(divs) {
		for n, g := range []formula{f, and(not(f), zero(0)), or(zero(0), x(1), f), most, denied(div(7, 0, 0, 1), 63)} {
			for _, m := range []*budget.Meter{widest(), usedUp()} {
				was := m.Spent()
				refuses(t, api.ErrSort, api.Real, g, m, "formula ", k, ", within ", n)
				equal(t, m.Spent(), was, "what was spent, formula ", k, ", within ", n)
			}
		}
	}
}

// TestErrBudget: a meter that was used up before, and parts that are used up on the way.
func TestErrBudget(t *testing.T) {
	for _, in := range logics() {
		for k, f := range []formula{x(0), not(x(0)), zero(0), not(zero(0)), and(x(0), no()), or(yes(), not(x(0))), not(or(yes(), zero(1))), denied(x(0), 5)} {
			m := usedUp()
			was, why := m.Spent(), budget.Text(m.Why())
			refuses(t, api.ErrBudget, in, f, m, "used up before, logic ", in, ", formula ", k)
			equal(t, m.Spent(), was, "what was spent, where it was used up before, formula ", k)
			equal(t, budget.Text(m.Why()), why, "why, where it was used up before, formula ", k)
		}
		// Where nothing is paid, the meter is not asked.
		for k, f := range []formula{yes(), no(), not(no()), and(), or(yes(), le(1)), not(lt(-1)), and(eq(0), not(eq(1)))} {
			if _, e := nnf.Of(in, f, usedUp()); e != api.OK {
				t.Errorf("logic %d: of formula %d, for which nothing is paid: %v", in, k, e)
			}
		}
	}
	for k, c := range []struct {
		in   uint8
		f    formula
		b    api.Budget
		part string
		most int
	}{
		{api.Real, x(0), api.Budget{Rows: 9, Limbs: 9}, "steps", 0},
		{api.Real, x(0), api.Budget{Steps: 9, Rows: 9}, "limbs", 0},
		{api.Real, not(x(0)), api.Budget{Steps: 9, Limbs: 9}, "rows", 0},
		{api.Real, not(zero(0)), api.Budget{Steps: 9, Rows: 1, Limbs: 9}, "rows", 1},
		{api.Real, not(zero(0)), api.Budget{Steps: 1, Rows: 2, Limbs: 9}, "steps", 1},
		{api.Whole, not(div(5, 0, 0, 1)), api.Budget{Steps: 9, Rows: 3, Limbs: 9}, "rows", 3},
		{api.Whole, not(div(5, 0, 0, 1)), api.Budget{Steps: 3, Rows: 4, Limbs: 9}, "steps", 3},
		{api.Whole, and(x(0), not(zero(1)), x(2)), api.Budget{Steps: 3, Rows: 2, Limbs: 9}, "steps", 3},
		{api.Whole, or(x(0), x(1), leaf(api.Atom{Term: api.Term{Parts: linear(0, 0, 1).Parts, Add: above(0, 0, 1)}})), api.Budget{Steps: 9, Limbs: 2}, "limbs", 2},
	} {
		m := metered(c.b)
		refuses(t, api.ErrBudget, c.in, c.f, m, "case ", k)
		part, most, is := budget.Part(m.Why())
		equal(t, is, true, "a part is used up, case ", k)
		equal(t, part, c.part, "the part, case ", k)
		equal(t, most, c.most, "how much there was, case ", k)
	}
}

// TestMostNodes: as many nodes as may be, and one more, also where they only come to be so many.
func TestMostNodes(t *testing.T) {
	// A third of so many equations, denied, with an Or of two above each.
	const third = (mostNodes - 1) / 3
	nots := func(many int) []formula { return each(many, func(k int) formula { return not(zero(k)) }) }
	mod := func(n int) formula { return not(div(n, 0, 0, 1)) }
	for _, in := range logics() {
		all := each(mostNodes-1, x)
		becomes(t, in, and(all...), and(all...))
		goesByModel(t, in, or(all...))
		goesByModel(t, in, not(and(all[1:]...)))
		goesByModel(t, in, not(or(all[1:]...)))
		refuses(t, api.ErrForm, in, and(append(all, x(0))...), widest(), "one node more")
		refuses(t, api.ErrForm, in, not(and(all...)), widest(), "one Not more")
		for k, c := range []struct {
			f, more formula
			size    int
		}{
			{and(nots(third)...), and(append(nots(third), x(0))...), mostNodes},
			{not(or(each(third, zero)...)), not(or(append([]formula{not(x(0))}, each(third, zero)...)...)), mostNodes},
			{and(append([]formula{x(0), x(1), x(2)}, nots(third-1)...)...), and(append([]formula{x(0), x(1), x(2), x(3)}, nots(third-1)...)...), mostNodes},
			{not(or(and(), or(each(third, zero)...))), not(or(or(each(third, zero)...), x(5))), 1},
			{not(or(or(), or(each(third, zero)...))), not(or(or(each(third, zero)...), x(5))), mostNodes},
			{or(x(0), x(1), and(nots(third-1)...)), or(x(0), x(1), x(2), and(nots(third-1)...)), mostNodes},
			{and(x(0), x(2), x(3), or(x(1), and(nots(third-2)...))), and(x(0), x(2), x(3), or(x(1), x(4), and(nots(third-2)...))), mostNodes},
			{or(each(mostNodes/2-1, func(k int) formula { return not(zero(k)) })...), and(append(nots(third+1), yes())...), mostNodes - 1},
			{and(append(nots(third+1), no())...), and(append(nots(third+1), yes())...), 1},
			{and(append([]formula{no()}, nots(third+1)...)...), and(and(nots(third+1)...), no()), 1},
			{or(and(append(nots(third+1), no())...), x(0)), or(and(nots(third+1)...), yes()), 1},
		} {
			g := goesByModel(t, in, c.f)
			equal(t, logic.Size(g), c.size, "how many nodes, logic ", in, ", case ", k)
			refuses(t, api.ErrBudget, in, c.more, widest(), "logic ", in, ", one node more, case ", k)
		}
	}
	for k, c := range []struct {
		f, more formula
		size    int
	}{
		{mod(mostNodes), mod(mostNodes + 1), mostNodes},
		{denied(div(mostNodes, 0, 0, 1), 63), denied(div(mostNodes+1, 0, 0, 1), 63), mostNodes},
		{and(mod(mostNodes)), and(mod(mostNodes + 1)), mostNodes},
		{and(yes(), mod(mostNodes), yes()), and(yes(), mod(mostNodes+1)), mostNodes},
		{or(x(0), mod(mostNodes-1)), or(x(0), mod(mostNodes)), mostNodes},
		{and(x(0), mod(mostNodes-2)), and(x(0), mod(mostNodes-1)), mostNodes},
		{and(mod(mostNodes-2), x(0)), and(mod(mostNodes-1), x(0)), mostNodes},
		{or(mod(mostNodes/2), mod(mostNodes/2+1)), or(mod(mostNodes/2+1), mod(mostNodes/2+1)), mostNodes},
		{or(or(mod(1000), x(0)), or(or(mod(mostNodes-1001), x(1)))), or(or(mod(1000), x(0)), or(or(mod(mostNodes-1000), x(1)))), mostNodes},
		{and(mod(mostNodes/2-1), mod(mostNodes/2), no()), and(mod(mostNodes+1), no()), 1},
		{and(no(), mod(mostNodes), mod(mostNodes)), and(no(), mod(mostNodes+1)), 1},
		{or(mod(mostNodes), mod(mostNodes), yes()), or(yes(), mod(mostNodes+1)), 1},
	} {
		g := goesByModel(t, api.Whole, c.f)
		equal(t, logic.Size(g), c.size, "how many nodes, mods, case ", k)
		refuses(t, api.ErrBudget, api.Whole, c.more, widest(), "one node more, mods, case ", k)
	}
	// What is much too large is refused soon, and without much memory.
	refuses(t, api.ErrBudget, api.Whole, and(each(mostNodes/2-1, func(k int) formula { return not(div(mostNodes, 0, k, 1)) })...), widest(), "millions of nodes")
}

// TestMostDepth: as deep as may be, and one more; no Not makes it deeper.
func TestMostDepth(t *testing.T) {
	for _, in := range logics() {
		deep := ladder(mostDepth-2, or(x(5), zero(0)))
		for k, f := range []formula{ladder(mostDepth, x(0)), ladder(mostDepth, zero(0)), not(deep), ladder(mostDepth-1, not(zero(0))), denied(zero(0), mostDepth-1), denied(ladder(32, zero(0)), 32), not(ladder(mostDepth-3, denied(zero(0), 2)))} {
			g := goesByModel(t, in, f)
			equal(t, logic.Depth(f), mostDepth, "how deep it was, case ", k)
			equal(t, nnf.Is(in, g), true, "Is, case ", k)
			for n, more := range []formula{not(f), and(f), or(f, yes())} {
				refuses(t, api.ErrForm, in, more, widest(), "one deeper, case ", k, ", ", n)
			}
		}
		becomes(t, in, ladder(mostDepth, x(0)), ladder(mostDepth, x(0)))
		g, _ := of(t, in, not(deep))
		equal(t, logic.Depth(g), mostDepth, "a Not goes, and an Or comes")
	}
}

// P19.6, S7, P7: with what was spent the same is told, with one less in any part it is refused, and with any budget it is the same, or refused.
func TestP19_6Budget(t *testing.T) {
	for _, in := range logics() {
		some(in, 197, 4000, func(r *rand.Rand, f formula) {
			if r.Intn(3) == 0 {
				f = and(f, lengthened(r, in))
			}
			want, spent := of(t, in, f)
			just := func(b api.Budget, what string) {
				m := metered(b)
				g, e := nnf.Of(in, f, m)
				equal(t, e, api.OK, what, ", of ", brief(f))
				tells(t, g, want, what, ", of ", brief(f))
				equal(t, m.Spent(), spent, what, ": what was spent, for ", brief(f))
			}
			just(spent, "with what was spent")
			just(api.Budget{Steps: spent.Steps + r.Intn(3), Rows: spent.Rows + r.Intn(3), Limbs: spent.Limbs + r.Intn(3), Depth: r.Intn(3)}, "with more")
			for k, part := range []func(b *api.Budget) *int{func(b *api.Budget) *int { return &b.Steps }, func(b *api.Budget) *int { return &b.Rows }, func(b *api.Budget) *int { return &b.Limbs }} {
				b := spent
				if *part(&b) == 0 {
					continue
				}
				*part(&b)--
				m := metered(b)
				refuses(t, api.ErrBudget, in, f, m, "one less in part ", k, ", of ", brief(f))
				name, most, is := budget.Part(m.Why())
				equal(t, is && name == []string{"steps", "rows", "limbs"}[k] && most == *part(&b), true, "why, with one less in part ", k, ", of ", brief(f))
				again := metered(m.Spent())
				refuses(t, api.ErrBudget, in, f, again, "with what was spent ahead of an error")
			}
			b := api.Budget{Steps: r.Intn(spent.Steps + 2), Rows: r.Intn(spent.Rows + 2), Limbs: r.Intn(spent.Limbs + 2)}
			enough := b.Steps >= spent.Steps && b.Rows >= spent.Rows && b.Limbs >= spent.Limbs
			if enough {
				just(b, "with enough")
			} else {
				refuses(t, api.ErrBudget, in, f, metered(b), "with too little: ", b, ", of ", brief(f))
			}
			// What one formula spends is gone for the next one.
			m := metered(api.Budget{Steps: 2 * spent.Steps, Rows: spent.Rows, Limbs: spent.Limbs})
			nnf.Of(in, f, m)
			g, e := nnf.Of(in, f, m)
			equal(t, e, api.OK, "twice, of ", brief(f))
			tells(t, g, want, "twice, of ", brief(f))
			if _, e := nnf.Of(in, f, m); spent.Steps > 0 {
				equal(t, e, api.ErrBudget, "three times, of ", brief(f))
			}
		})
	}
}

// S7, P19.1: no more steps are done than the budget has. What is done is told by the memory that is taken up on the way: with few steps by few steps' share of what is taken up with enough of them.
func TestFewStepsDone(t *testing.T) {
	var parts []api.Part
	for v := range 300 {
		parts = append(parts, api.Part{Var: v, Coef: whole.Of(v%7 + 1)})
	}
	saying := func(kind uint8, mod int) func(k int) formula {
		return func(k int) formula {
			return leaf(api.Atom{Kind: kind, Term: api.Term{Parts: parts, Add: whole.Of(k)}, Mod: whole.Of(mod)})
		}
	}
	taken := func(in uint8, f formula, steps int) (int, api.Errno) {
		b := budget.Widest()
		b.Steps = steps
		m := metered(b)
		var ahead, behind runtime.MemStats
		runtime.ReadMemStats(&ahead)
		_, e := nnf.Of(in, f, m)
		runtime.ReadMemStats(&behind)
		return int(behind.TotalAlloc - ahead.TotalAlloc), e
	}
	divides := saying(api.Div, 1000)
	for k, c := range []struct {
		in    uint8
		f     formula
		steps int
	}{
		{api.Whole, not(divides(0)), 999}, {api.Whole, or(x(0), not(divides(3)), not(divides(4))), 1999}, {api.Whole, not(and(divides(3), or(divides(4), x(0)))), 1999}, {api.Whole, and(not(divides(0)), no()), 999},
		{api.Whole, and(each(1000, saying(api.Eq, 0))...), 1000}, {api.Whole, not(and(each(1000, saying(api.Eq, 0))...)), 2000}, {api.Whole, or(append([]formula{yes()}, each(1000, saying(api.Lt, 0))...)...), 1000}, {api.Whole, and(each(1000, divides)...), 1000},
		{api.Real, or(each(1000, saying(api.Eq, 0))...), 1000}, {api.Real, not(or(each(1000, saying(api.Eq, 0))...)), 2000}, {api.Real, and(each(1000, func(k int) formula { return not(saying(api.Eq, 0)(k)) })...), 2000},
	} {
		all, e := taken(c.in, c.f, c.steps)
		equal(t, e, api.OK, "with enough steps, case ", k)
		// What the formula itself takes up, as it is looked at for whether it may be, is no step's.
		none, e := taken(c.in, c.f, 0)
		equal(t, e, api.ErrBudget, "without steps, case ", k)
		if none > all*2/3 {
			t.Errorf("case %d: without steps %d bytes are taken up, with enough of them %d", k, none, all)
		}
		for _, steps := range []int{1, 2, 10, 100} {
			some, e := taken(c.in, c.f, steps)
			equal(t, e, api.ErrBudget, "with ", steps, " steps, case ", k)
			if most := none + 3*(steps+2)*(all-none)/c.steps; some > most {
				t.Errorf("case %d: with %d steps %d bytes are taken up, that is more than %d", k, steps, some, most)
			}
		}
	}
}

// S7: what few steps are not enough for says so, whether it is settled behind, or grows too large, or is neither.
func TestFewSteps(t *testing.T) {
	many := mostNodes/3 + 1
	mod := func(n int) formula { return not(div(n, 0, 0, 1)) }
	for k, c := range []struct {
		in  uint8
		f   formula
		few []int
	}{
		// Steps for each atom, but not for all denials; for all denials of those ahead, but not for all atoms.
		{api.Whole, and(mod(3000), mod(3000), no()), []int{0, 1, 2, 3, 2999, 3000, 4100, 5997}}, {api.Whole, or(yes(), mod(3000), x(0), mod(3000)), []int{0, 1, 2, 3, 4, 2999, 3000, 3001, 5998}},
		// What settles is an atom that is behind those which there are steps for.
		{api.Whole, not(or(append(append(each(many, zero), each(1400, x)...), le(-1))...)), []int{0, 1, many, many + 1, 2*many - 1, 2 * many, 2*many + 1, many + 1399, many + 1400, many + 1401, 2*many + 1399}},
		{api.Real, not(or(append(append([]formula{yes()}, each(many, zero)...), each(1400, x)...)...)), []int{0, 1, many, 2*many - 1, 2 * many, many + 1399, many + 1400, 2*many + 1399}},
		{api.Real, and(append(each(1000, zero), or(x(0), not(and(zero(1), zero(2)))))...), []int{0, 1, 999, 1000, 1001, 1002, 1003, 1004}},
	} {
		var spent api.Budget
		want := model(c.in, c.f, &spent)
		for _, steps := range c.few {
			b := budget.Widest()
			b.Steps = steps
			m := metered(b)
			refuses(t, api.ErrBudget, c.in, c.f, m, "case ", k, ", with ", steps, " steps")
			part, most, is := budget.Part(m.Why())
			equal(t, is && part == "steps" && most == steps, true, "why, case ", k, ", with ", steps, " steps")
			equal(t, m.Spent().Steps, steps, "what was spent, case ", k, ", with ", steps, " steps")
		}
		b := spent
		m := metered(b)
		g, e := nnf.Of(c.in, c.f, m)
		equal(t, e, api.OK, "with what is spent, case ", k)
		tells(t, g, want, "with what is spent, case ", k)
		equal(t, m.Spent(), spent, "what is spent, case ", k)
	}
	// What is too large is so with whatever steps.
	for k, f := range []formula{and(mod(3000), mod(3000)), or(x(0), mod(3000), mod(3000)), not(or(append(each(many, zero), each(1400, x)...)...)), and(mod(mostNodes+1), no())} {
		for _, steps := range []int{0, 1, 2, 3, 2999, 3000, many + 1399, many + 1400, 2*many - 1, 2 * many, 5998, 5999, 100000} {
			b := budget.Widest()
			b.Steps = steps
			refuses(t, api.ErrBudget, api.Whole, f, metered(b), "too large, case ", k, ", with ", steps, " steps")
		}
	}
}

// lengthened is an atom of long numbers, denied or not.
func lengthened(r *rand.Rand, in uint8) formula {
	number := func() api.Int {
		n := slices.Repeat([]uint32{r.Uint32() | 1}, 1+r.Intn(4))
		return api.Int{Neg: r.Intn(2) == 0, Limbs: n}
	}
	a := api.Atom{Kind: uint8(r.Intn(3)), Term: api.Term{Parts: []api.Part{{Var: 0, Coef: whole.Of(1)}, {Var: 3, Coef: number()}}, Add: number()}}
	if in == api.Whole && r.Intn(3) == 0 {
		a.Kind, a.Mod = api.Div, whole.Abs(number())
		return leaf(a)
	}
	return denied(leaf(a), r.Intn(3))
}

// P19.1, S7: what is paid has the limbs of canonical atoms, and of denials alone.
func TestLimbs(t *testing.T) {
	atom := func(add api.Int) formula {
		return leaf(api.Atom{Kind: api.Le, Term: api.Term{Parts: linear(0, 0, 1).Parts, Add: add}})
	}
	for k, c := range []struct {
		in    uint8
		f     formula
		limbs int
	}{
		{api.Whole, atom(below(full)), 1}, {api.Whole, not(atom(below(full))), 2}, {api.Whole, atom(above(0, 1)), 2}, {api.Whole, not(atom(above(0, 1))), 1},
		{api.Real, not(atom(below(full))), 1}, {api.Real, not(atom(above(0, 1))), 2}, {api.Whole, not(not(atom(below(full)))), 1},
		{api.Real, leaf(api.Atom{Kind: api.Lt, Term: api.Term{Parts: []api.Part{{Var: 0, Coef: above(0, 0, 3)}}, Add: above(0, 0, 5)}}), 1},
		{api.Whole, leaf(api.Atom{Kind: api.Le, Term: api.Term{Parts: []api.Part{{Var: 0, Coef: above(0, 0, 3)}}, Add: above(1, 0, 5)}}), 1},
		{api.Whole, leaf(api.Atom{Kind: api.Div, Term: api.Term{Parts: []api.Part{{Var: 0, Coef: above(5, 0, 3)}}, Add: above(1, 0, 5)}, Mod: whole.Of(7)}), 1},
		{api.Whole, leaf(api.Atom{Kind: api.Div, Term: linear(3, 0, 5), Mod: above(7, 0, 0, 1)}), 4},
		{api.Real, leaf(api.Atom{Kind: api.Eq, Term: api.Term{Parts: []api.Part{{Var: 0, Coef: below(5, 0, 3)}}, Add: above(1)}}), 3},
		{api.Real, leaf(api.Atom{Kind: api.Eq, Term: api.Term{Add: above(1, 2, 3)}}), 0},
	} {
		goesByModel(t, c.in, c.f)
		_, spent := of(t, c.in, c.f)
		equal(t, spent.Limbs, c.limbs, "limbs, case ", k)
	}
}

// S7: a number that would have more than MaxLong limbs needs more than the widest budget, as it would mean something else with fewer.
func TestLongest(t *testing.T) {
	longest := above(slices.Repeat([]uint32{full}, mostLong)...)
	next := whole.Sub(longest, whole.Of(1))
	atom := func(kind uint8, add api.Int, coefs ...int) formula {
		return leaf(api.Atom{Kind: kind, Term: api.Term{Parts: linear(0, coefs...).Parts, Add: add}})
	}
	for k, c := range []struct {
		f    formula
		fits bool // over the whole numbers; over the quotients all do
	}{
		{atom(api.Le, longest, 0, 1), true}, {atom(api.Le, whole.Neg(longest), 0, 1), true}, {atom(api.Eq, longest, 0, 1), true}, {atom(api.Eq, whole.Neg(longest), 0, 1), true},
		{atom(api.Lt, longest, 0, 1), false}, {atom(api.Lt, longest, 0, 2, 1, 3), false}, {atom(api.Lt, longest, 0, 2), true}, {atom(api.Lt, next, 0, 1), true}, {atom(api.Lt, whole.Neg(longest), 0, 1), true},
		{not(atom(api.Le, longest, 0, 1)), true}, {not(atom(api.Le, whole.Neg(longest), 0, 1)), false}, {not(atom(api.Le, whole.Neg(next), 0, 1)), true}, {not(atom(api.Le, whole.Neg(longest), 0, 3)), true},
		{not(atom(api.Eq, longest, 0, 1)), false}, {not(atom(api.Eq, whole.Neg(longest), 0, 1)), false}, {not(atom(api.Eq, next, 0, 1)), true}, {not(atom(api.Eq, whole.Neg(next), 0, -1)), true},
		{not(atom(api.Lt, longest, 0, 1)), false}, {not(atom(api.Lt, whole.Neg(longest), 0, 1)), true},
		{and(x(1), not(atom(api.Eq, longest, 0, 1))), false}, {or(yes(), not(atom(api.Le, whole.Neg(longest), 0, 1))), false}, {not(not(atom(api.Eq, longest, 0, 1))), true},
	} {
		for _, in := range logics() {
			if in == api.Whole && !c.fits {
				refuses(t, api.ErrBudget, in, c.f, widest(), "case ", k)
				continue
			}
			var spent api.Budget
			want := model(in, c.f, &spent)
			g, got := of(t, in, c.f)
			equal(t, logic.Same(g, want), true, "logic ", in, ", case ", k)
			equal(t, got, spent, "what was spent, logic ", in, ", case ", k)
		}
	}
	// A number that becomes 0 for other reasons is no such number.
	becomes(t, api.Whole, leaf(api.Atom{Term: api.Term{Parts: []api.Part{{Var: 0, Coef: longest}}, Add: whole.Neg(next)}}), x(0))
	becomes(t, api.Whole, not(le(1, 0, 1)), le(0, 0, -1))
	becomes(t, api.Whole, not(eq(-1, 0, 1)), or(le(0, 0, 1), le(2, 0, -1)))
	becomes(t, api.Whole, leaf(api.Atom{Kind: api.Div, Term: api.Term{Parts: linear(0, 0, 1).Parts, Add: longest}, Mod: whole.Of(3)}), div(3, 0, 0, 1))
	becomes(t, api.Whole, not(div(3, 1, 0, 1)), or(div(3, 2, 0, 1), div(3, 0, 0, 1)))
}

// lists are all lists that a formula has, each to its room's end.
func lists(f *formula, words *[][]uint32, parts *[][]api.Part, kids *[][]formula) {
	a := &f.Atom
	for k := range a.Term.Parts {
		l := a.Term.Parts[k].Coef.Limbs
		*words = append(*words, l[:cap(l)])
	}
	*words = append(*words, a.Term.Add.Limbs[:cap(a.Term.Add.Limbs)], a.Mod.Limbs[:cap(a.Mod.Limbs)])
	*parts = append(*parts, a.Term.Parts[:cap(a.Term.Parts)])
	*kids = append(*kids, f.Kids[:cap(f.Kids)])
	for k := range f.Kids {
		lists(&f.Kids[k], words, parts, kids)
	}
}

// alone tells whether lists share nothing: each place of them holds what was written there, when all are written.
func alone[T any](l [][]T, write func(x *T, k int), holds func(x T, k int) bool) bool {
	count := 0
	for _, m := range l {
		for k := range m {
			write(&m[k], count)
			count++
		}
	}
	count = 0
	for _, m := range l {
		for k := range m {
			if !holds(m[k], count) {
				return false
			}
			count++
		}
	}
	return true
}

// apart tells whether no two lists of a formula share memory. It writes all over it.
func apart(f *formula) bool {
	var words [][]uint32
	var parts [][]api.Part
	var kids [][]formula
	lists(f, &words, &parts, &kids)
	is := alone(words, func(x *uint32, k int) { *x = uint32(k) }, func(x uint32, k int) bool { return x == uint32(k) })
	is = is && alone(parts, func(x *api.Part, k int) { x.Var = k }, func(x api.Part, k int) bool { return x.Var == k })
	return is && alone(kids, func(x *formula, k int) { x.Vars = []int{k} }, func(x formula, k int) bool { return x.Vars[0] == k })
}

// spare is a formula whose lists have something behind their end, and looks at whether it is as it was.
func spare(f formula, looks *[]func() bool) formula {
	g := formula{Op: f.Op, Atom: f.Atom, Vars: spareList(f.Vars, 9, looks)}
	g.Atom.Mod.Limbs = spareList(f.Atom.Mod.Limbs, 9, looks)
	g.Atom.Term.Add.Limbs = spareList(f.Atom.Term.Add.Limbs, 9, looks)
	l := slices.Clone(f.Atom.Term.Parts)
	for k, p := range l {
		l[k].Coef.Limbs = spareList(p.Coef.Limbs, 9, looks)
	}
	g.Atom.Term.Parts = spareList(l, api.Part{Var: 9}, looks)
	var kids []formula
	for _, kid := range f.Kids {
		kids = append(kids, spare(kid, looks))
	}
	g.Kids = spareList(kids, formula{Op: 9}, looks)
	return g
}

// spareList is a list likewise, held against itself by its text.
func spareList[T any](l []T, behind T, looks *[]func() bool) []T {
	long := append(slices.Clone(l), behind, behind)
	kept := fmt.Sprint(long)
	*looks = append(*looks, func() bool { return fmt.Sprint(long) == kept })
	return long[:len(l)]
}

// R1: what is handed in stays, also behind its end, with an error and without; what is told shares no memory with it, nor within itself; it is told again.
func TestR1Stays(t *testing.T) {
	for _, in := range logics() {
		check := func(f formula) {
			var looks []func() bool
			f = spare(f, &looks)
			for _, steps := range []int{1000000, 3} {
				b := budget.Widest()
				b.Steps = steps
				was := nnf.Is(in, f)
				g, e := nnf.Of(in, f, metered(b))
				h, e2 := nnf.Of(in, f, metered(b))
				equal(t, e, e2, "told again, of ", brief(f))
				tells(t, h, g, "told again, of ", brief(f))
				equal(t, apart(&g), true, "no memory is shared: ", brief(f))
				again, e3 := nnf.Of(in, f, metered(b))
				equal(t, e, e3, "told again, behind what was written, of ", brief(f))
				tells(t, again, h, "told again, behind what was written, of ", brief(f))
				equal(t, nnf.Is(in, f), was, "Is, asked again, of ", brief(f))
				if f.Op == api.Is {
					g, _ := nnf.Atom(in, f.Atom, metered(b))
					equal(t, apart(&g), true, "no memory is shared by Atom: ", brief(f))
				}
				for k, look := range looks {
					if !look() {
						t.Fatal("something that was handed in has changed:", k, spell(f))
					}
				}
			}
		}
		some(in, 198, 500, func(r *rand.Rand, f formula) { check(f) })
		r := rand.New(rand.NewSource(199))
		for range 200 {
			check(bare(r, in, 1+r.Intn(5), api.Or))
			check(lengthened(r, in))
		}
		// One formula in many places is many.
		twice := and(zero(0), not(zero(0)), le(4, 0, 6))
		check(or(twice, twice, not(twice), and(twice, twice)))
		for _, f := range []formula{exists(x(0), 0), div(2, 0, 0, 1), and(x(0), formula{Op: 99}), not(div(3, 1, 0, 1))} {
			check(f)
		}
	}
}

// R1: formulas of whatever is in them: each call ends, and tells a formula without denials, or an error alone.
func TestR1Wild(t *testing.T) {
	r := rand.New(rand.NewSource(200))
	atoms := append(append(append(canonicalAtoms(api.Real), otherAtoms(api.Whole)...), wrongAtoms()...), leaf(api.Atom{}))
	var wild func(deep int) formula
	wild = func(deep int) formula {
		f := formula{Op: uint8(r.Intn(10))}
		if f.Op == api.Is || r.Intn(60) == 0 {
			f.Atom = pick(r, atoms).Atom
		}
		if f.Op >= api.Exists && r.Intn(3) > 0 || r.Intn(60) == 0 {
			f.Vars = []int{r.Intn(3)}
		}
		if f.Op >= api.Not && deep > 1 {
			for range 1 + r.Intn(3)*r.Intn(2) {
				f.Kids = append(f.Kids, wild(deep-1))
			}
		}
		return f
	}
	count := map[api.Errno]int{}
	for range 60000 {
		f := wild(1 + r.Intn(4))
		in := uint8(r.Intn(9) / 4)
		m := metered(api.Budget{Steps: r.Intn(3) * r.Intn(9), Rows: r.Intn(2) * mostRows, Limbs: r.Intn(2) * mostLong})
		g, e := nnf.Of(in, f, m)
		count[e]++
		if e == api.OK {
			equal(t, nnf.Is(in, g), true, "wild: Is of what ", brief(f), " becomes")
		} else {
			tells(t, g, formula{}, "wild, beside the error: ", brief(f))
		}
		nnf.Is(in, f)
		nnf.Atom(in, f.Atom, m)
	}
	for _, e := range []api.Errno{api.OK, api.ErrArg, api.ErrForm, api.ErrSort, api.ErrBudget} {
		if count[e] < 100 {
			t.Error("of", e, "only", count[e])
		}
	}
}
