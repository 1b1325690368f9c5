package dnf_test

import (
	"fmt"
	"math"
	"math/rand"
	"runtime"
	"slices"
	"testing"

	"alidade/api"
	"alidade/atom"
	"alidade/budget"
	"alidade/dnf"
	"alidade/eval"
	"alidade/logic"
	"alidade/nnf"
	"alidade/rat"
	"alidade/whole"
)

const (
	mostNodes = 1 << 12
	mostDepth = 64
	mostVars  = 1 << 20
	mostRows  = 1 << 20
	mostLong  = 1 << 16
	lastVar   = mostVars - 1
	full      = math.MaxUint32
)

// These are written often: a list is a conjunction, or one that is none.
type (
	formula = api.Formula
	list    = []api.Atom
	form    = [][]api.Atom
)

// linear is the term of a number, and of variables, each with its Coef behind it; they have to rise.
func linear(add int, l ...int) api.Term {
	t := api.Term{Add: whole.Of(add)}
	for ; len(l) > 0; l = l[2:] {
		t.Parts = append(t.Parts, api.Part{Var: l[0], Coef: whole.Of(l[1])})
	}
	return t
}

// le, lt, eq, div are atoms of linear terms.
func le(add int, l ...int) api.Atom { return api.Atom{Kind: api.Le, Term: linear(add, l...)} }
func lt(add int, l ...int) api.Atom { return api.Atom{Kind: api.Lt, Term: linear(add, l...)} }
func eq(add int, l ...int) api.Atom { return api.Atom{Kind: api.Eq, Term: linear(add, l...)} }
func div(mod, add int, l ...int) api.Atom {
	return api.Atom{Kind: api.Div, Term: linear(add, l...), Mod: whole.Of(mod)}
}

// x says of a variable that it is 0, or less; zero that it is 0; even that 2 divides it.
func x(v int) api.Atom    { return le(0, v, 1) }
func zero(v int) api.Atom { return eq(0, v, 1) }
func even(v int) api.Atom { return div(2, 0, v, 1) }

// These are made by hand, of whatever stands within; a part is an atom, or a formula.
func is(part any) formula {
	if a, ok := part.(api.Atom); ok {
		return formula{Op: api.Is, Atom: a}
	}
	return part.(formula)
}
func yes() formula      { return formula{Op: api.True} }
func no() formula       { return formula{Op: api.False} }
func not(f any) formula { return formula{Op: api.Not, Kids: []formula{is(f)}} }
func and(l ...any) formula {
	return formula{Op: api.And, Kids: each(len(l), func(k int) formula { return is(l[k]) })}
}
func or(l ...any) formula {
	return formula{Op: api.Or, Kids: each(len(l), func(k int) formula { return is(l[k]) })}
}
func exists(f formula, l ...int) formula { return formula{Op: api.Exists, Vars: l, Kids: []formula{f}} }
func forall(f formula, l ...int) formula { return formula{Op: api.Forall, Vars: l, Kids: []formula{f}} }

// each is what a call makes of so many numbers, from 0 on.
func each[T any](many int, call func(k int) T) []T {
	var l []T
	for k := range many {
		l = append(l, call(k))
	}
	return l
}

// leaf, xs are atoms of a variable, as formulas, and as a list.
func leaf(v int) formula { return is(x(v)) }
func xs(many int) list   { return each(many, x) }

// of is a list; forms are some lists.
func of(l ...api.Atom) list { return l }
func forms(l ...list) form  { return l }

// logics are both.
func logics() []uint8 { return []uint8{api.Real, api.Whole} }

// above, below are the whole numbers of a natural's limbs.
func above(n ...uint32) api.Int { return api.Int{Limbs: n} }
func below(n ...uint32) api.Int { return api.Int{Neg: true, Limbs: n} }

// brief is something whose text is made only when it is told: how it begins and ends.
type brief struct{ of any }

func (b brief) String() string {
	s := fmt.Sprint(b.of)
	if len(s) > 400 {
		s = s[:200] + " .. " + s[len(s)-200:]
	}
	return s
}

// equal complains unless something is what is wanted.
func equal[T comparable](t *testing.T, got, want T, what ...any) {
	t.Helper()
	if got != want {
		t.Errorf("%s: got %v, want %v", fmt.Sprint(what...), got, want)
	}
}

// tells complains unless a form, or a formula, is the one that is wanted, just so; none and nothing are the same.
func tells[T form | formula](t *testing.T, got, want T, what ...any) {
	t.Helper()
	if fmt.Sprint(got) != fmt.Sprint(want) {
		t.Errorf("%s: got %s, want %s", fmt.Sprint(what...), brief{got}, brief{want})
	}
}

// widest is a meter of the widest budget.
func widest() *budget.Meter { return metered(budget.Widest()) }

// metered is a meter of a budget.
func metered(b api.Budget) *budget.Meter {
	m, e := budget.New(b)
	if e != api.OK {
		panic("no budget")
	}
	return m
}

// withRows, withSteps are the widest budget, but for one part.
func withRows(n int) api.Budget {
	b := budget.Widest()
	b.Rows = n
	return b
}
func withSteps(n int) api.Budget {
	b := budget.Widest()
	b.Steps = n
	return b
}

// usedUp are meters of which a part was used up before.
func usedUp() []*budget.Meter {
	steps, rows, limbs, deep := metered(withSteps(0)), metered(withRows(3)), widest(), widest()
	steps.Pay(api.Atom{})
	rows.Rows(4)
	limbs.Pay(api.Atom{Term: api.Term{Add: above(slices.Repeat([]uint32{1}, mostLong+1)...)}})
	deep.Deep(api.MaxSource + 1)
	return []*budget.Meter{steps, rows, limbs, deep}
}

// formOf is a formula's form, and what was spent for it, with the widest budget.
func formOf(t *testing.T, in uint8, f formula) (form, api.Budget) {
	t.Helper()
	m := widest()
	g, e := dnf.Of(in, f, m)
	if e != api.OK {
		t.Errorf("refused: %v: %s", e, brief{f})
	}
	return g, m.Spent()
}

// becomes complains unless a formula has a form, in a logic.
func becomes(t *testing.T, in uint8, f formula, want ...list) {
	t.Helper()
	g, _ := formOf(t, in, f)
	tells(t, g, want, "Of, logic ", in, ", ", brief{f})
}

// refuses complains unless Of tells an error, and nothing beside it.
func refuses(t *testing.T, want api.Errno, in uint8, f formula, m *budget.Meter, what ...any) {
	t.Helper()
	g, e := dnf.Of(in, f, m)
	equal(t, e, want, append([]any{"Of: "}, what...)...)
	equal(t, len(g), 0, append([]any{"Of, beside the error: "}, what...)...)
}

// refusesFormula complains unless Formula tells an error, and nothing beside it.
func refusesFormula(t *testing.T, want api.Errno, in uint8, l form, what ...any) {
	t.Helper()
	g, e := dnf.Formula(in, l)
	equal(t, e, want, append([]any{"Formula: "}, what...)...)
	tells(t, g, formula{}, append([]any{"Formula, beside the error: "}, what...)...)
}

// A model goes by the words: lists of atoms, each held against each other one.

// hasAll tells whether a list has all atoms of another one.
func hasAll(l, other list) bool {
	lacks := func(a api.Atom) bool {
		return !slices.ContainsFunc(l, func(b api.Atom) bool { return atom.Same(a, b) })
	}
	return !slices.ContainsFunc(other, lacks)
}

// modelShort are lists, made short.
func modelShort(l form) form {
	var left form
	for k := range l {
		goes := false
		for j := range l {
			goes = goes || j != k && hasAll(l[k], l[j]) && (j < k || !hasAll(l[j], l[k]))
		}
		if !goes {
			left = append(left, l[k])
		}
	}
	return left
}

// modelBoth is the conjunction of two conjunctions' atoms.
func modelBoth(l, r list) list {
	both := slices.Concat(l, r)
	slices.SortFunc(both, atom.Compare)
	return slices.CompactFunc(both, atom.Same)
}

// modelForm is the form of a formula without denials, and tells rows.
func modelForm(f formula, tell func(n int)) form {
	var l form
	switch f.Op {
	case api.Is:
		l = forms(of(f.Atom))
	case api.True, api.And:
		l = forms(nil)
	}
	tell(len(l))
	for _, kid := range f.Kids {
		r := modelForm(kid, tell)
		if f.Op == api.Or {
			l = append(l, r...)
			tell(len(l))
			l = modelShort(l)
			continue
		}
		tell(len(l) * len(r))
		var out form
		for _, a := range l {
			for _, b := range r {
				both := modelBoth(a, b)
				tell(len(both))
				out = append(out, both)
			}
		}
		l = modelShort(out)
	}
	return l
}

// model is the form of a formula, and what is spent for it.
func model(t *testing.T, in uint8, f formula) (form, api.Budget) {
	t.Helper()
	m := widest()
	g, e := nnf.Of(in, f, m)
	equal(t, e, api.OK, "nnf.Of: ", brief{f})
	spent := m.Spent()
	l := modelForm(g, func(n int) { spent.Rows = max(spent.Rows, n) })
	return l, spent
}

// goesByModel complains unless a formula's form is what the model has it, for what the model spends.
func goesByModel(t *testing.T, in uint8, f formula) form {
	t.Helper()
	want, wantSpent := model(t, in, f)
	g, spent := formOf(t, in, f)
	tells(t, g, want, "Of, logic ", in, ", ", brief{f})
	equal(t, spent, wantSpent, "what was spent, logic ", in, ", for ", brief{f})
	return g
}

// pick is one of a list.
func pick[T any](r *rand.Rand, l []T) T { return l[r.Intn(len(l))] }

// few are atoms of three variables, canonical by a logic or not; not many, so that the same ones meet often.
func few(in uint8) list {
	l := of(x(0), x(1), x(2), zero(0), zero(1), eq(-1, 0, 1, 1, 1), le(2, 0, 2), lt(1, 0, -1, 2, 1), lt(0, 1, -3), le(-1), eq(4), eq(3, 0, 2))
	if in == api.Whole {
		return append(l, even(0), div(3, 1, 1, 1), div(4, 2, 0, 2, 1, 6), div(1, 5, 0, 1))
	}
	return l
}

// made is a formula without quantifiers, of a few atoms, no deeper than that.
func made(r *rand.Rand, in uint8, deep int) formula {
	op := pick(r, []uint8{api.Is, api.Is, api.Not, api.And, api.And, api.Or, api.Or, api.Or})
	if deep == 1 {
		op = pick(r, []uint8{api.Is, api.Is, api.Is, api.Is, api.Is, api.Is, api.Is, api.True, api.False})
	}
	f := formula{Op: op}
	kids := 0
	switch op {
	case api.Is:
		f.Atom = pick(r, few(in))
	case api.Not:
		kids = 1
	case api.And, api.Or:
		kids = pick(r, []int{0, 1, 2, 2, 3, 3, 4})
	}
	for range kids {
		f.Kids = append(f.Kids, made(r, in, deep-1))
	}
	return f
}

// crossed is And of Ors of Ands, or the other way about, of a few atoms, denied or not.
func crossed(r *rand.Rand, in uint8) formula {
	op, other := api.And, api.Or
	if r.Intn(4) == 0 {
		op, other = other, op
	}
	part := func(int) formula {
		f := is(pick(r, few(in)[:9]))
		switch r.Intn(12) {
		case 0:
			f = made(r, in, 1)
		case 1, 2:
			f = not(f)
		}
		return f
	}
	several := func(op uint8, kid func(k int) formula) formula {
		return formula{Op: op, Kids: each(1+r.Intn(4), kid)}
	}
	return several(op, func(int) formula {
		return several(other, func(k int) formula {
			if r.Intn(2) == 0 {
				return part(k)
			}
			return several(op, part)
		})
	})
}

// some hands formulas of a logic, of a fixed seed, to a test: such as have not so many conjunctions that a model is slow.
func some(in uint8, seed int64, many int, test func(r *rand.Rand, f formula)) {
	r := rand.New(rand.NewSource(seed))
	for many > 0 {
		f := made(r, in, 1+r.Intn(5))
		if r.Intn(2) == 0 {
			f = crossed(r, in)
		}
		if _, e := dnf.Of(in, f, metered(withRows(120))); e == api.OK {
			test(r, f)
			many--
		}
	}
}

// shortFormulas are all short formulas over a few atoms of a logic.
func shortFormulas(in uint8) []formula {
	l := []formula{yes(), no(), is(x(0)), is(zero(1)), is(le(2, 0, 2)), is(le(1))}
	if in == api.Whole {
		l = append(l, is(div(3, 1, 0, 2)))
	}
	leaves := len(l)
	for range 2 {
		kids := l
		l = slices.Clone(kids[:leaves])
		for _, op := range []uint8{api.And, api.Or} {
			l = append(l, formula{Op: op})
			for _, kid := range kids {
				l = append(l, formula{Op: op, Kids: []formula{kid}})
				for _, other := range kids {
					l = append(l, formula{Op: op, Kids: []formula{kid, other}})
				}
			}
		}
		for _, kid := range kids {
			l = append(l, not(kid))
		}
	}
	return l
}

// values are a logic's values for three variables, one list after the other.
func values(in uint8) [][]api.Rat {
	numbers := []api.Rat{rat.Int(-2), rat.Int(-1), rat.Int(0), rat.Int(1), rat.Int(2)}
	if in == api.Real {
		for _, n := range []int{-3, -1, 1} {
			half, _ := rat.Make(whole.Of(n), whole.Of(2))
			numbers = append(numbers, half)
		}
	}
	var l [][]api.Rat
	for _, a := range numbers {
		for _, b := range numbers {
			for _, c := range numbers {
				l = append(l, []api.Rat{a, b, c})
			}
		}
	}
	return l
}

// truth is whether a formula is true by values.
func truth(t *testing.T, in uint8, f formula, values []api.Rat) bool {
	t.Helper()
	is, e := eval.Truth(in, f, values)
	if e != api.OK {
		t.Errorf("Truth: refused: %v: %s", e, brief{f})
	}
	return is
}

// holds is whether a form is true by values: whether one of its conjunctions has none but true atoms.
func holds(l form, values []api.Rat) bool {
	isTrue := func(l list) bool {
		return !slices.ContainsFunc(l, func(a api.Atom) bool { return !atom.Holds(a, values) })
	}
	return slices.ContainsFunc(l, isTrue)
}

// formulaOf is a form as a formula.
func formulaOf(t *testing.T, in uint8, l form) formula {
	t.Helper()
	f, e := dnf.Formula(in, l)
	equal(t, e, api.OK, "Formula, logic ", in, ", of ", brief{l})
	return f
}

// TestExamples are those of the chapter.
func TestExamples(t *testing.T) {
	p, q, e := x(0), x(1), zero(1)
	becomes(t, api.Real, and(or(p, e), q), of(p, q), of(e, q))
	becomes(t, api.Real, or(p, and(p, q)), of(p))
	becomes(t, api.Real, and(or(p, q), or(p, e)), of(p), of(e, q))
}

// P21.1: True, False, atoms of each kind, canonical or not, and what comes to be true, or false.
func TestP21_1Leaves(t *testing.T) {
	for _, in := range logics() {
		becomes(t, in, yes(), nil)
		becomes(t, in, no())
		for _, f := range []formula{and(), not(no()), not(or()), is(le(0)), is(eq(0)), is(lt(-1)), not(eq(1)), and(yes(), yes()), or(no(), yes()), or(x(0), yes()), not(and(x(0), no()))} {
			becomes(t, in, f, nil)
		}
		for _, f := range []formula{or(), not(yes()), not(and()), is(le(1)), is(eq(2)), is(lt(0)), not(lt(-1)), or(no()), and(no(), yes()), and(x(0), no()), not(or(x(0), yes()))} {
			becomes(t, in, f)
		}
		for _, a := range of(x(0), zero(lastVar), le(-3, 0, 1, 5, -1), eq(1, 1, 2, 2, -2), le(0, 3, -1)) {
			c, truth, _ := atom.Canon(in, a)
			if truth == atom.Open {
				becomes(t, in, is(a), of(c))
				becomes(t, in, not(not(a)), of(c))
				becomes(t, in, and(a), of(c))
				becomes(t, in, or(or(a), no()), of(c))
			}
		}
		becomes(t, in, is(le(4, 0, 2)), of(le(2, 0, 1)))
		becomes(t, in, is(eq(6, 0, -3)), of(eq(-2, 0, 1)))
	}
	becomes(t, api.Real, is(lt(3, 0, 2)), of(lt(3, 0, 2)))
	becomes(t, api.Whole, is(lt(3, 0, 2)), of(le(2, 0, 1)))
	becomes(t, api.Real, is(eq(3, 0, 2)), of(eq(3, 0, 2)))
	becomes(t, api.Whole, is(eq(3, 0, 2)))
	becomes(t, api.Whole, is(div(4, 2, 0, 6)), of(div(2, 1, 0, 1)))
	becomes(t, api.Whole, is(div(4, 1, 0, 2)))
	becomes(t, api.Whole, is(div(1, 1, 0, 2)), nil)
	becomes(t, api.Whole, is(div(3, 6)), nil)
}

// P21.1: Nots ahead of atoms, of which those of Eq and Div make several, and ahead of And and Or.
func TestP21_1Nots(t *testing.T) {
	becomes(t, api.Real, not(x(0)), of(lt(0, 0, -1)))
	becomes(t, api.Whole, not(x(0)), of(le(1, 0, -1)))
	becomes(t, api.Real, not(zero(0)), of(lt(0, 0, 1)), of(lt(0, 0, -1)))
	becomes(t, api.Whole, not(zero(0)), of(le(1, 0, 1)), of(le(1, 0, -1)))
	becomes(t, api.Whole, not(even(0)), of(div(2, 1, 0, 1)))
	becomes(t, api.Whole, not(div(4, 0, 0, 1)), of(div(4, 1, 0, 1)), of(div(4, 2, 0, 1)), of(div(4, 3, 0, 1)))
	becomes(t, api.Whole, not(eq(1, 0, 2)), nil)
	becomes(t, api.Real, not(and(zero(0), zero(1))), of(lt(0, 0, 1)), of(lt(0, 0, -1)), of(lt(0, 1, 1)), of(lt(0, 1, -1)))
	becomes(t, api.Real, not(or(zero(0), zero(1))), of(lt(0, 0, 1), lt(0, 1, 1)), of(lt(0, 0, 1), lt(0, 1, -1)), of(lt(0, 0, -1), lt(0, 1, 1)), of(lt(0, 0, -1), lt(0, 1, -1)))
	three, less, more := func(k int) api.Atom { return div(3, k, 0, 1) }, le(1, 0, 1), le(1, 0, -1)
	becomes(t, api.Whole, and(not(three(0)), not(zero(0)), x(1)), of(three(1), less, x(1)), of(three(1), more, x(1)), of(three(2), less, x(1)), of(three(2), more, x(1)))
	becomes(t, api.Real, not(or(and(x(0), x(1)), not(x(2)))), of(x(2), lt(0, 0, -1)), of(x(2), lt(0, 1, -1)))
	becomes(t, api.Real, not(not(or(x(0), not(not(x(1)))))), of(x(0)), of(x(1)))
}

// P21.1: And and Or, of none, of one, within one another, with kids that settle nothing first, in the midst, and last.
func TestP21_1Ops(t *testing.T) {
	p, q, e := x(0), x(1), zero(2)
	for _, in := range logics() {
		becomes(t, in, and(p, q, e), of(e, p, q))
		becomes(t, in, or(p, q, e), of(p), of(q), of(e))
		becomes(t, in, or(e, q, p), of(e), of(q), of(p))
		becomes(t, in, or(and(p, q), and(q, e)), of(p, q), of(e, q))
		becomes(t, in, and(and(p, and(q)), and(and(e))), of(e, p, q))
		becomes(t, in, or(or(p, or(q)), or(or(e))), of(p), of(q), of(e))
		becomes(t, in, and(or(p, q), e), of(e, p), of(e, q))
		becomes(t, in, and(e, or(p, q)), of(e, p), of(e, q))
		becomes(t, in, or(and(p, or(q, e)), x(3)), of(p, q), of(e, p), of(x(3)))
		becomes(t, in, and(or(p, and(q, e)), x(3)), of(p, x(3)), of(e, q, x(3)))
		for _, idle := range []formula{and(), yes(), is(le(-1)), not(eq(3)), or(yes(), p)} {
			for _, f := range []formula{and(idle, or(p, q), e), and(or(p, q), idle, e), and(or(p, q), e, idle), and(idle, or(p, q), idle, idle, e, idle)} {
				becomes(t, in, f, of(e, p), of(e, q))
			}
			for _, f := range []formula{or(idle, p, q), or(p, idle, q), or(p, and(q, e), idle), and(idle, idle)} {
				becomes(t, in, f, nil)
			}
		}
		for _, idle := range []formula{or(), no(), is(le(1)), not(eq(0)), and(no(), p)} {
			for _, f := range []formula{or(idle, p, and(q, e)), or(p, idle, and(q, e)), or(p, and(q, e), idle), or(idle, idle, p, idle, and(q, e), idle)} {
				becomes(t, in, f, of(p), of(e, q))
			}
			for _, f := range []formula{and(idle, or(p, q), e), and(or(p, q), idle, e), and(or(p, q), e, idle), or(idle, idle)} {
				becomes(t, in, f)
			}
		}
	}
}

// P21.1: the row in which conjunctions come: of Or kid by kid, of And each of what was made so far with each of the kid's.
func TestP21_1Row(t *testing.T) {
	pairs := func(k int) any { return or(x(2*k), x(2*k+1)) }
	for _, in := range logics() {
		becomes(t, in, and(pairs(0), pairs(1)), of(x(0), x(2)), of(x(0), x(3)), of(x(1), x(2)), of(x(1), x(3)))
		becomes(t, in, and(pairs(1), pairs(0)), of(x(0), x(2)), of(x(1), x(2)), of(x(0), x(3)), of(x(1), x(3)))
		becomes(t, in, and(or(x(9), x(4)), or(x(5), x(2), x(7))), of(x(5), x(9)), of(x(2), x(9)), of(x(7), x(9)), of(x(4), x(5)), of(x(2), x(4)), of(x(4), x(7)))
		becomes(t, in, or(and(pairs(1), x(8)), x(9), and(pairs(0), x(7))), of(x(2), x(8)), of(x(3), x(8)), of(x(9)), of(x(0), x(7)), of(x(1), x(7)))
		g, _ := formOf(t, in, and(each(5, pairs)...))
		equal(t, len(g), 32, "how many conjunctions")
		for k, l := range g {
			// The first kid's choice changes last.
			want := each(5, func(n int) api.Atom { return x(2*n + k>>(4-n)&1) })
			tells(t, forms(l), forms(want), "conjunction ", k)
		}
	}
}

// P21.1: behind each kid it is made short, and the meter is told how many there were ahead of that.
func TestP21_1MadeShort(t *testing.T) {
	p, q, e, s := x(0), x(1), zero(1), x(2)
	for _, in := range logics() {
		for k, c := range []struct {
			f    formula
			rows int
			want form
		}{
			// What goes behind a kid comes again with a later one, and goes again.
			{or(and(p, q), p, and(p, q)), 2, forms(of(p))},
			{or(p, and(p, q), and(p, q), and(q, p), p, p), 2, forms(of(p))},
			{or(and(p, q), and(q, p), q, and(p, q), s), 2, forms(of(q), of(s))},
			{or(p, p, p, p), 2, forms(of(p))},
			{or(p, q, p, q, e), 3, forms(of(p), of(q), of(e))},
			{or(and(p, q, s), and(p, q), and(q, s), q), 3, forms(of(q))},
			{or(and(p, e), and(p, s), and(q, s), p), 4, forms(of(q, s), of(p))},
			// One kid has several, which make several go.
			{or(and(p, q), and(e, s), and(or(p, e), or(p, e))), 4, forms(of(p), of(e))},
			{or(and(p, q), s, or(q, e), and(p, s)), 4, forms(of(s), of(q), of(e))},
			{and(or(p, q), or(p, q)), 4, forms(of(p), of(q))},
			{and(or(p, q), or(q, p)), 4, forms(of(p), of(q))},
			{and(or(p, q), or(p, q), or(p, q), or(q, p)), 4, forms(of(p), of(q))},
			{and(or(p, q), or(q, s)), 4, forms(of(p, s), of(q))},
			{and(or(p, q), or(q, s), or(p, s)), 4, forms(of(p, s), of(p, q), of(q, s))},
			{and(or(p, q), p), 2, forms(of(p))},
			{and(p, or(p, q)), 2, forms(of(p))},
			{and(or(p, q), or(p, e), or(p, s)), 4, forms(of(p), of(e, q, s))},
			{and(or(p, q, s), or(p, e), p), 6, forms(of(p))},
			{and(p, q, s), 3, forms(of(p, q, s))},
			{and(p, p, p), 1, forms(of(p))},
			{and(p, q, p, q, p), 2, forms(of(p, q))},
			{or(and(p, q, s), and(p, q, s, e)), 4, forms(of(p, q, s))},
			{and(or(and(p, q), and(q, s)), or(q, e)), 4, forms(of(p, q), of(q, s))},
			{and(or(and(p, q), and(q, s)), or(and(p, s), and(q, s), and(p, q))), 6, forms(of(p, q), of(q, s))},
		} {
			becomes(t, in, c.f, c.want...)
			g, spent := formOf(t, in, c.f)
			equal(t, spent.Rows, c.rows, "rows, logic ", in, ", case ", k)
			tells(t, goesByModel(t, in, c.f), g, "by the model, case ", k)
			refuses(t, api.ErrBudget, in, c.f, metered(withRows(c.rows-1)), "one row less, case ", k)
		}
	}
}

// P21.1: two conjunctions that are put together: atoms that stand in both, first, in the midst and last, and rows that do not rise by themselves.
func TestP21_1Together(t *testing.T) {
	a, b, c, d, e := zero(0), even(0), x(0), x(1), le(1, 1, -1)
	row := of(a, b, e, c, d)
	slices.SortFunc(row, atom.Compare)
	for l := range 1 << len(row) {
		for r := range 1 << len(row) {
			chosen := func(bits int) (out []any) {
				for k, p := range row {
					if bits>>k&1 == 1 {
						out = append(out, p)
					}
				}
				return out
			}
			left, right := chosen(l), chosen(r)
			want := each(len(chosen(l|r)), func(k int) api.Atom { return chosen(l | r)[k].(api.Atom) })
			becomes(t, api.Whole, and(append(slices.Clone(left), right...)...), want)
			slices.Reverse(right)
			becomes(t, api.Whole, and(append(slices.Clone(right), left...)...), want)
			// Two other ones keep each of them one conjunction of a kid.
			f := and(or(x(8), and(left...)), or(x(9), and(right...)))
			if len(left) > 0 && len(right) > 0 {
				_, spent := formOf(t, api.Whole, f)
				equal(t, spent.Rows, max(4, len(want), len(left)+1, len(right)+1), "rows: ", l, " and ", r)
			}
			goesByModel(t, api.Whole, f)
		}
	}
	// Equations stand ahead of Divs, these ahead of Le, that ahead of Lt.
	becomes(t, api.Whole, and(d, c, b, a), of(a, b, c, d))
	becomes(t, api.Real, and(lt(0, 0, 1), x(5), lt(-1, 0, -1), zero(7)), of(zero(7), x(5), lt(-1, 0, -1), lt(0, 0, 1)))
	becomes(t, api.Real, and(x(7), x(3), le(1, 3, 1), le(0, 3, 2, 4, 1), le(-1, 3, 1)), of(le(-1, 3, 1), x(3), le(1, 3, 1), le(0, 3, 2, 4, 1), x(7)))
	// The same, said in other words.
	becomes(t, api.Whole, and(or(le(4, 0, 2), x(1)), or(lt(3, 0, 2), x(1))), of(le(2, 0, 1)), of(x(1)))
	becomes(t, api.Real, or(eq(4, 0, 2), eq(-2, 0, -1), and(eq(6, 0, 3), x(1))), of(eq(2, 0, 1)))
}

// P21.1: all short formulas, and others of a fixed seed, against the model.
func TestP21_1Model(t *testing.T) {
	for _, in := range logics() {
		for k, f := range shortFormulas(in) {
			if k%3 == 0 {
				goesByModel(t, in, f)
			}
		}
		count := 0
		some(in, 211, 9000, func(r *rand.Rand, f formula) {
			if len(goesByModel(t, in, f)) > 5 {
				count++
			}
		})
		if count < 500 {
			t.Error("of formulas of more than five conjunctions only", count)
		}
	}
}

// wrongAtoms are atoms that may not be.
func wrongAtoms() list {
	good := linear(0, 0, 1)
	wrongInts := []api.Int{{Neg: true}, {Limbs: []uint32{0}}, {Limbs: []uint32{5, 0}}, {Neg: true, Limbs: []uint32{0}}, {Limbs: slices.Repeat([]uint32{1}, mostLong+1)}}
	l := list{
		{Kind: 4, Term: good}, {Kind: 255}, {Kind: api.Div, Term: good}, {Kind: api.Div, Term: good, Mod: whole.Of(-2)}, {Term: good, Mod: whole.Of(1)}, {Kind: api.Eq, Mod: whole.Of(2)}, {Kind: api.Lt, Mod: whole.Of(-1)},
		{Term: linear(0, -1, 1)}, {Term: linear(0, mostVars, 1)}, {Term: linear(0, 1, 1, 0, 1)}, {Term: linear(0, 1, 1, 1, 1)}, {Term: linear(0, 0, 0)}, {Kind: api.Div, Term: linear(1, 3, 0), Mod: whole.Of(2)},
	}
	for _, n := range wrongInts {
		l = append(l, api.Atom{Term: api.Term{Add: n}}, api.Atom{Term: api.Term{Parts: []api.Part{{Var: 0, Coef: n}}}}, api.Atom{Kind: api.Div, Term: good, Mod: n}, api.Atom{Kind: api.Eq, Term: good, Mod: n})
	}
	return l
}

// TestP21_1Conjunction: which atoms are a conjunction, and which are none.
func TestP21_1Conjunction(t *testing.T) {
	is := func(in uint8, want bool, l ...api.Atom) {
		t.Helper()
		equal(t, dnf.Conjunction(in, l), want, "Conjunction, logic ", in, ", of ", brief{l})
	}
	both := func(want bool, l ...api.Atom) {
		t.Helper()
		is(api.Real, want, l...)
		is(api.Whole, want, l...)
	}
	both(true)
	both(true, x(0))
	both(true, zero(lastVar))
	both(true, zero(1), x(0))
	both(false, x(0), zero(1))
	both(true, x(0), x(1))
	both(false, x(1), x(0))
	both(false, x(0), x(0))
	both(false, zero(0), zero(0), x(0))
	both(false, zero(0), x(0), x(0))
	both(true, le(-1, 0, 1), x(0), le(1, 0, 1), le(0, 0, 1, 1, 1), x(1))
	both(false, le(-1, 0, 1), le(1, 0, 1), x(0), x(1))
	both(false, x(2), x(3), x(4), x(1))
	both(true, xs(3000)...)
	both(false, append(xs(3000), x(2999))...)
	both(false, append(xs(3000), x(0))...)
	both(false, append(of(x(5)), xs(3000)...)...)
	// Not canonical, by one logic or by both, or true, or false.
	both(false, le(0, 0, 2))
	both(false, eq(0, 0, -1))
	both(false, zero(0), le(4, 0, 2), x(1))
	for _, a := range of(le(0), le(-1), eq(0), le(5), lt(0), eq(1)) {
		both(false, a)
		both(false, zero(0), a)
		both(false, a, x(0))
	}
	is(api.Real, true, lt(0, 0, 1))
	is(api.Whole, false, lt(0, 0, 1))
	is(api.Real, true, zero(0), x(0), lt(1, 0, 2))
	is(api.Whole, false, zero(0), x(0), lt(1, 0, 2))
	is(api.Real, true, le(3, 0, 2))
	is(api.Whole, false, le(3, 0, 2))
	is(api.Real, true, eq(3, 0, 2))
	is(api.Whole, false, eq(3, 0, 2))
	is(api.Whole, true, even(0))
	is(api.Real, false, even(0))
	is(api.Whole, true, zero(3), even(0), x(0))
	is(api.Real, false, zero(3), even(0), x(0))
	is(api.Whole, true, div(2, 0, 0, 1), div(3, 0, 0, 1), div(3, 1, 0, 1))
	is(api.Whole, false, div(3, 0, 0, 1), div(2, 0, 0, 1))
	is(api.Whole, false, div(4, 2, 0, 2))
	is(api.Whole, false, div(3, 4, 0, 1))
	is(api.Whole, false, div(1, 0, 0, 1))
	is(api.Whole, false, div(3, 6))
	for _, a := range wrongAtoms() {
		both(false, a)
		both(false, a, x(0))
		both(false, zero(0), a)
		both(false, zero(0), a, x(1))
	}
	for _, in := range []uint8{2, 3, 127, 255} {
		is(in, false)
		is(in, false, x(0))
		is(in, false, zero(0), x(0))
		is(in, false, x(1), x(0))
		is(in, false, wrongAtoms()[0])
	}
	// One that is put into its row, and freed of what stands twice, is one.
	r := rand.New(rand.NewSource(212))
	for range 3000 {
		in := uint8(r.Intn(2))
		canonical := slices.DeleteFunc(few(in), func(a api.Atom) bool { return !dnf.Conjunction(in, of(a)) })
		l := each(r.Intn(6), func(int) api.Atom { return pick(r, canonical) })
		sorted := modelBoth(l, nil)
		is(in, true, sorted...)
		is(in, fmt.Sprint(l) == fmt.Sprint(sorted), l...)
	}
}

// TestP21_2Short: what goes, and what stays, of whatever lists.
func TestP21_2Short(t *testing.T) {
	p, q, e, s := x(0), x(1), zero(1), x(2)
	long := le(2, 0, 2)
	for k, c := range []struct{ l, want form }{
		{nil, nil}, {form{}, nil}, {forms(nil), forms(nil)}, {forms(list{}, nil), forms(nil)}, {forms(of(p)), forms(of(p))}, {forms(of(p, q)), forms(of(p, q))},
		// Of no atoms all others have all.
		{forms(nil, of(p)), forms(nil)}, {forms(of(p), nil), forms(nil)}, {forms(of(p), nil, of(q, e), nil), forms(nil)},
		// Of two that are the same the later one goes.
		{forms(of(p), of(p)), forms(of(p))}, {forms(of(q), of(p), of(q), of(p), of(p)), forms(of(q), of(p))}, {forms(of(p, q), of(s), of(p, q)), forms(of(p, q), of(s))},
		// One that has all of another one, wherever that stands.
		{forms(of(p), of(p, q)), forms(of(p))}, {forms(of(p, q), of(p)), forms(of(p))}, {forms(of(p, q), of(q)), forms(of(q))}, {forms(of(e, p, q), of(e, q)), forms(of(e, q))}, {forms(of(e, p, q), of(p)), forms(of(p))},
		{forms(of(p, q), of(s), of(q)), forms(of(s), of(q))}, {forms(of(q), of(s), of(p, q)), forms(of(q), of(s))},
		// Also where that goes itself.
		{forms(of(p, q, s), of(p, q), of(p)), forms(of(p))}, {forms(of(p), of(p, q), of(p, q, s)), forms(of(p))}, {forms(of(p, q), of(p), of(p, q, s)), forms(of(p))}, {forms(of(p, q, s), of(p), of(p, q)), forms(of(p))}, {forms(of(p, q), of(p, q), of(p)), forms(of(p))}, {forms(of(p, q), of(p), of(p, q), of(p)), forms(of(p))},
		{forms(of(p, q), of(q, s), of(p, s)), forms(of(p, q), of(q, s), of(p, s))}, {forms(of(e, p), of(p, q), of(e, p, q), of(e, q)), forms(of(e, p), of(p, q), of(e, q))},
		// Lists that do not rise, that have an atom twice, that have the same atoms in another row, stay as they are, or go.
		{forms(of(q, p)), forms(of(q, p))}, {forms(of(q, p), of(p, q)), forms(of(q, p))}, {forms(of(p, q), of(q, p)), forms(of(p, q))}, {forms(of(s, q, p), of(q, s)), forms(of(q, s))}, {forms(of(q, s), of(s, p, q)), forms(of(q, s))},
		{forms(of(p, p)), forms(of(p, p))}, {forms(of(p, p), of(p)), forms(of(p, p))}, {forms(of(p), of(p, p)), forms(of(p))}, {forms(of(p, q, p), of(q, p, q), of(p, q)), forms(of(p, q, p))}, {forms(of(p, p, p), of(p, q)), forms(of(p, p, p))}, {forms(of(p, p, q), of(p, p)), forms(of(p, p))},
		// Atoms that are not canonical are the same only as themselves.
		{forms(of(long), of(le(1, 0, 1))), forms(of(long), of(le(1, 0, 1)))}, {forms(of(long, p), of(long)), forms(of(long))}, {forms(of(le(0)), of(le(0), p), of(le(1))), forms(of(le(0)), of(le(1)))}, {forms(of(even(0), p), of(even(0)), of(div(4, 0, 0, 2))), forms(of(even(0)), of(div(4, 0, 0, 2)))},
		// Atoms that are not the same: another Kind, Mod, Add, Coef, variable.
		{forms(of(p), of(lt(0, 0, 1)), of(zero(0)), of(even(0)), of(div(3, 0, 0, 1)), of(le(1, 0, 1)), of(le(-1, 0, 1)), of(le(0, 0, -1)), of(le(0, 0, 1, 1, 1)), of(q)), forms(of(p), of(lt(0, 0, 1)), of(zero(0)), of(even(0)), of(div(3, 0, 0, 1)), of(le(1, 0, 1)), of(le(-1, 0, 1)), of(le(0, 0, -1)), of(le(0, 0, 1, 1, 1)), of(q))},
	} {
		tells(t, dnf.Short(c.l), c.want, "Short, case ", k, ", of ", brief{c.l})
		tells(t, dnf.Short(c.want), c.want, "Short, once more, case ", k)
	}
}

// TestP21_2Wrong: an atom that may not be is the same as none, not even as itself.
func TestP21_2Wrong(t *testing.T) {
	p, q := x(0), x(1)
	for k, w := range wrongAtoms() {
		for n, c := range []struct{ l, want form }{
			{forms(of(w)), forms(of(w))}, {forms(of(w), of(w)), forms(of(w), of(w))}, {forms(of(w), of(w, w), of(w)), forms(of(w), of(w, w), of(w))},
			{forms(of(w), nil), forms(nil)}, {forms(nil, of(w)), forms(nil)}, {forms(of(w), of(p)), forms(of(w), of(p))},
			{forms(of(w, p), of(p)), forms(of(p))}, {forms(of(p), of(p, w)), forms(of(p))}, {forms(of(p, w), of(p, w)), forms(of(p, w), of(p, w))}, {forms(of(p, w), of(p, q, w)), forms(of(p, w), of(p, q, w))}, {forms(of(p, q, w), of(w), of(q)), forms(of(w), of(q))},
			{forms(of(w, p, q), of(w, p), of(q), of(q)), forms(of(w, p), of(q))},
		} {
			tells(t, dnf.Short(c.l), c.want, "Short, atom ", k, ", case ", n)
			tells(t, modelShort(c.l), c.want, "the model, atom ", k, ", case ", n)
		}
	}
	all := each(len(wrongAtoms()), func(k int) list { return of(wrongAtoms()[k]) })
	tells(t, dnf.Short(all), all, "all of them")
	tells(t, dnf.Short(append(all, all...)), append(all, all...), "all of them, twice")
	equal(t, len(dnf.Short(forms(wrongAtoms(), wrongAtoms()))), 2, "all of them in a list, twice")
}

// madeLists are lists of a few atoms, some of which may not be, if that is wanted.
func madeLists(r *rand.Rand, wrong bool) form {
	atoms := append(few(api.Whole), few(api.Real)...)
	if wrong {
		atoms = append(atoms, wrongAtoms()[:3]...)
	}
	r.Shuffle(len(atoms), func(j, k int) { atoms[j], atoms[k] = atoms[k], atoms[j] })
	atoms = atoms[:2+r.Intn(len(atoms)-2)]
	longest := 1 + r.Intn(5)
	return each(r.Intn(14), func(int) list {
		return each(r.Intn(longest+1), func(int) api.Atom { return pick(r, atoms) })
	})
}

// P21.2, P21.4: lists of a fixed seed, against the model, and by themselves.
func TestP21_2Model(t *testing.T) {
	r := rand.New(rand.NewSource(213))
	for k := range 10000 {
		l := madeLists(r, k%2 == 0)
		g := dnf.Short(l)
		tells(t, g, modelShort(l), "Short of ", brief{l})
		tells(t, dnf.Short(g), g, "Short, once more, of ", brief{l})
	}
	// Lists of many atoms.
	for range 60 {
		l := each(40, func(int) list {
			from, many := r.Intn(300), 1+r.Intn(150)
			return each(many, func(k int) api.Atom { return x((from + k) % 300) })
		})
		l = append(l, l[r.Intn(len(l))])
		tells(t, dnf.Short(l), modelShort(l), "Short of long lists")
	}
}

// TestP21_2Formula: a form as a formula.
func TestP21_2Formula(t *testing.T) {
	p, q, e := x(0), x(1), zero(1)
	for _, in := range logics() {
		for k, c := range []struct {
			l    form
			want formula
		}{
			{nil, no()}, {form{}, no()}, {forms(nil), yes()}, {forms(list{}), yes()}, {forms(nil, nil), yes()}, {forms(of(p), nil), yes()}, {forms(nil, of(p, q)), yes()},
			{forms(of(p)), is(p)}, {forms(of(p, q)), and(p, q)}, {forms(of(e, p, q)), and(e, p, q)}, {forms(of(p), of(q)), or(p, q)}, {forms(of(q), of(p), of(e)), or(q, p, e)}, {forms(of(p), of(e, q)), or(p, and(e, q))}, {forms(of(e, q), of(p, q)), or(and(e, q), and(p, q))},
			// What is the same, or not short, stays.
			{forms(of(p), of(p)), or(p, p)}, {forms(of(p, q), of(p, q)), or(and(p, q), and(p, q))}, {forms(of(p, q), of(p), of(q)), or(and(p, q), p, q)},
		} {
			tells(t, formulaOf(t, in, c.l), c.want, "Formula, logic ", in, ", case ", k)
		}
	}
	tells(t, formulaOf(t, api.Real, forms(of(lt(0, 0, 1)))), is(lt(0, 0, 1)), "Formula, Real")
	tells(t, formulaOf(t, api.Whole, forms(of(even(0), p), of(even(1)))), or(and(even(0), p), even(1)), "Formula, Whole")
}

// TestFormulaErrors holds each row of the table against the rows behind it.
func TestFormulaErrors(t *testing.T) {
	p, q := x(0), x(1)
	many := each(mostNodes, func(k int) list { return of(x(k)) })
	wrong := []form{forms(of(q, p)), forms(of(p, p)), forms(of(le(0, 0, 2))), forms(of(le(0))), forms(of(eq(1))), forms(of(p), of(q, p)), forms(nil, of(p, p)), append(slices.Clone(many), of(q, p)), append(forms(of(q, p)), many...), append(each(mostNodes, func(int) list { return nil }), of(le(4, 0, 2)))}
	for _, a := range wrongAtoms() {
		wrong = append(wrong, forms(of(a)), forms(of(p), of(p, a)), append(slices.Clone(many), of(a)))
	}
	wide := []form{many, each(mostNodes, func(int) list { return nil }), forms(xs(mostNodes)), append(many[:2000:2000], xs(96))}
	for _, in := range []uint8{2, 3, 128, 255} {
		for k, l := range slices.Concat(wrong, wide, []form{nil, forms(nil), forms(of(p)), forms(of(even(0)))}) {
			refusesFormula(t, api.ErrArg, in, l, "logic ", in, ", form ", k)
		}
	}
	for _, in := range logics() {
		for k, l := range wrong {
			refusesFormula(t, api.ErrForm, in, l, "logic ", in, ", form ", k)
		}
		for k, l := range wide {
			refusesFormula(t, api.ErrTooLarge, in, l, "logic ", in, ", form ", k)
		}
	}
	refusesFormula(t, api.ErrForm, api.Real, forms(of(even(0))), "Div")
	refusesFormula(t, api.ErrForm, api.Real, append(slices.Clone(many), of(p, even(0))), "Div, behind many")
	refusesFormula(t, api.ErrForm, api.Whole, forms(of(lt(0, 0, 1))), "Lt")
	refusesFormula(t, api.ErrForm, api.Whole, forms(of(p), of(zero(0), le(3, 0, 2))), "not tightened")
}

// P21.2: just as many conjunctions and atoms as there may be, and one more.
func TestFormulaMost(t *testing.T) {
	ones := func(many int) form { return each(many, func(k int) list { return of(x(k)) }) }
	for _, in := range logics() {
		for k, c := range []struct {
			l    form
			more form
			size int
		}{
			{forms(xs(mostNodes - 2)), forms(xs(mostNodes - 1)), mostNodes - 1},
			{forms(xs(2000), xs(mostNodes-2003)), forms(xs(2000), xs(mostNodes-2002)), mostNodes},
			{append(ones(2047), nil), append(ones(2047), nil, nil), 1},
			{append(ones(2046), of(x(0), x(1))), append(ones(2046), of(x(0), x(1), x(2))), 2050},
			{append(ones(2046), of(x(0), x(1))), ones(2048), 2050},
			{each(1365, func(k int) list { return of(x(k), x(k+1)) }), append(each(1365, func(k int) list { return of(x(k), x(k+1)) }), nil), mostNodes},
			{each(mostNodes-1, func(int) list { return nil }), each(mostNodes, func(int) list { return nil }), 1},
			{ones(2047), ones(2048), 2048},
		} {
			f := formulaOf(t, in, c.l)
			equal(t, logic.Size(f), c.size, "how many nodes, case ", k)
			refusesFormula(t, api.ErrTooLarge, in, c.more, "one more, case ", k)
		}
	}
}

// P21.3, P21.4, P21.5: a form is true by just those values by which the formula is, and so is its Formula; it is short conjunctions; the form of its Formula is the form.
func TestP21_3To5(t *testing.T) {
	for _, in := range logics() {
		grid := values(in)
		some(in, 215, 2500, func(r *rand.Rand, f formula) {
			g, _ := formOf(t, in, f)
			h := formulaOf(t, in, g)
			for range 12 {
				v := pick(r, grid)
				is := truth(t, in, f, v)
				if holds(g, v) != is || truth(t, in, h, v) != is {
					t.Errorf("logic %d, by %v: %s is %v, but not its form %s", in, v, brief{f}, is, brief{g})
				}
			}
			for j, l := range g {
				equal(t, dnf.Conjunction(in, l), true, "Conjunction ", j, " of ", brief{f})
				for k, other := range g {
					equal(t, j != k && hasAll(l, other), false, "conjunction ", j, " has all of ", k, ", of ", brief{f})
				}
			}
			tells(t, dnf.Short(g), g, "Short of the form of ", brief{f})
			becomes(t, in, h, g...)
		})
	}
	// There and back, of forms that are made by hand.
	for _, in := range logics() {
		for _, l := range []form{nil, forms(nil), forms(of(x(0))), forms(of(x(0), x(1))), forms(of(x(1)), of(x(0))), forms(of(zero(1), x(0)), of(x(0), x(1)), of(zero(0))), each(2047, func(k int) list { return of(x(2047 - k)) }), forms(xs(mostNodes - 2)), each(1365, func(k int) list { return of(x(k), x(k+1)) })} {
			becomes(t, in, formulaOf(t, in, l), l...)
		}
	}
}

// P21.3, P21.4: of lists that are made short each one that goes has all of one that stays, so what they say is the same.
func TestP21_4Short(t *testing.T) {
	r := rand.New(rand.NewSource(216))
	grid := values(api.Whole)
	for range 4000 {
		l := madeLists(r, false)
		g := dnf.Short(l)
		for range 10 {
			v := pick(r, grid)
			equal(t, holds(g, v), holds(l, v), "by ", v, ": what ", brief{l}, " says")
		}
		at := 0
		for _, one := range l {
			if at < len(g) && fmt.Sprint(one) == fmt.Sprint(g[at]) {
				at++
				continue
			}
			if !slices.ContainsFunc(g, func(other list) bool { return hasAll(one, other) }) {
				t.Errorf("of %s goes %s, which has all of none that stays", brief{l}, brief{one})
			}
		}
		equal(t, at, len(g), "what stays stands in its row: ", brief{l})
	}
}

// lengthened is an atom of long numbers, denied or not.
func lengthened(r *rand.Rand, in uint8) formula {
	number := func() api.Int {
		n := slices.Repeat([]uint32{r.Uint32() | 1}, 1+r.Intn(4))
		return api.Int{Neg: r.Intn(2) == 0, Limbs: n}
	}
	a := api.Atom{Kind: uint8(r.Intn(3)), Term: api.Term{Parts: []api.Part{{Var: 0, Coef: whole.Of(1)}, {Var: 3, Coef: number()}}, Add: number()}}
	if in == api.Whole && r.Intn(3) == 0 {
		a.Kind, a.Mod = api.Div, whole.Abs(number())
		return is(a)
	}
	if r.Intn(2) == 0 {
		return not(a)
	}
	return is(a)
}

// P21.6, S7, P7: with what was spent the same is told, with one less in any part it is refused, and with any budget it is the same, or refused.
func TestP21_6Budget(t *testing.T) {
	for _, in := range logics() {
		some(in, 217, 3000, func(r *rand.Rand, f formula) {
			if r.Intn(3) == 0 {
				f = and(f, lengthened(r, in))
			}
			want, spent := formOf(t, in, f)
			just := func(b api.Budget, what string) {
				m := metered(b)
				g, e := dnf.Of(in, f, m)
				equal(t, e, api.OK, what, ", of ", brief{f})
				tells(t, g, want, what, ", of ", brief{f})
				equal(t, m.Spent(), spent, what, ": what was spent, for ", brief{f})
			}
			just(spent, "with what was spent")
			just(api.Budget{Steps: spent.Steps + r.Intn(3), Rows: spent.Rows + r.Intn(3), Limbs: spent.Limbs + r.Intn(3), Depth: r.Intn(3)}, "with more")
			for k, part := range []func(b *api.Budget) *int{func(b *api.Budget) *int { return &b.Steps }, func(b *api.Budget) *int { return &b.Rows }, func(b *api.Budget) *int { return &b.Limbs }} {
				b := spent
				if *part(&b) == 0 {
					continue
				}
				*part(&b)--
				m := metered(b)
				refuses(t, api.ErrBudget, in, f, m, "one less in part ", k, ", of ", brief{f})
				name, most, is := budget.Part(m.Why())
				equal(t, is && name == []string{"steps", "rows", "limbs"}[k] && most == *part(&b), true, "why, with one less in part ", k, ", of ", brief{f})
				refuses(t, api.ErrBudget, in, f, metered(m.Spent()), "with what was spent ahead of an error")
			}
			b := api.Budget{Steps: r.Intn(spent.Steps + 2), Rows: r.Intn(spent.Rows + 2), Limbs: r.Intn(spent.Limbs + 2)}
			if b.Steps >= spent.Steps && b.Rows >= spent.Rows && b.Limbs >= spent.Limbs {
				just(b, "with enough")
			} else {
				refuses(t, api.ErrBudget, in, f, metered(b), "with too little: ", b, ", of ", brief{f})
			}
			equal(t, len(want) <= spent.Rows, true, "no more conjunctions than rows: ", brief{f})
		})
	}
}

// P21.6, S7: which part is used up, and how much there was of it, where it is known by hand.
func TestP21_6Parts(t *testing.T) {
	long := api.Atom{Term: api.Term{Parts: linear(0, 0, 1).Parts, Add: above(0, 0, 1)}}
	pairs := func(k int) any { return or(x(2*k), x(2*k+1)) }
	for k, c := range []struct {
		f     formula
		spent api.Budget
	}{
		{is(x(0)), api.Budget{Steps: 1, Rows: 1, Limbs: 1}},
		{yes(), api.Budget{Rows: 1}},
		{no(), api.Budget{}},
		{and(x(0), x(1), x(2)), api.Budget{Steps: 3, Rows: 3, Limbs: 1}},
		{or(x(0), x(1), x(2)), api.Budget{Steps: 3, Rows: 3, Limbs: 1}},
		{and(pairs(0), pairs(1)), api.Budget{Steps: 4, Rows: 4, Limbs: 1}},
		{and(pairs(0), pairs(1), pairs(2), x(6)), api.Budget{Steps: 7, Rows: 8, Limbs: 1}},
		{and(pairs(0), pairs(0), pairs(0), pairs(0)), api.Budget{Steps: 8, Rows: 4, Limbs: 1}},
		{and(or(x(0), x(1)), x(2), x(3), x(4), long), api.Budget{Steps: 6, Rows: 5, Limbs: 3}},
		{not(zero(0)), api.Budget{Steps: 2, Rows: 2, Limbs: 1}},
		{and(not(zero(0)), not(zero(1))), api.Budget{Steps: 4, Rows: 4, Limbs: 1}},
		{or(long, long, long), api.Budget{Steps: 3, Rows: 2, Limbs: 3}},
		{or(and(x(0), x(1), x(2), x(3)), x(0)), api.Budget{Steps: 5, Rows: 4, Limbs: 1}},
	} {
		for _, in := range logics() {
			_, spent := formOf(t, in, c.f)
			equal(t, spent, c.spent, "what was spent, logic ", in, ", case ", k)
			goesByModel(t, in, c.f)
		}
	}
}

// TestErrBudget: a meter that said before that a part is used up says nothing else.
func TestErrBudget(t *testing.T) {
	for _, in := range logics() {
		for k, f := range []formula{is(x(0)), not(x(0)), is(zero(0)), and(x(0), x(1)), or(x(0), x(1)), and(or(x(0), x(1)), or(x(2), x(3))), and(x(0), no()), yes(), no(), and(), is(le(0))} {
			for n, m := range usedUp() {
				was, why := m.Spent(), budget.Text(m.Why())
				refuses(t, api.ErrBudget, in, f, m, "logic ", in, ", formula ", k, ", meter ", n)
				equal(t, m.Spent(), was, "what was spent, formula ", k, ", meter ", n)
				equal(t, budget.Text(m.Why()), why, "why, formula ", k, ", meter ", n)
			}
		}
		// What one formula spends is gone for the next one: steps, but not rows.
		m := metered(api.Budget{Steps: 7, Rows: 4, Limbs: 1})
		f := and(or(x(0), x(1)), or(x(2), x(3)))
		for k, want := range []api.Errno{api.OK, api.ErrBudget, api.ErrBudget} {
			_, e := dnf.Of(in, f, m)
			equal(t, e, want, "told again, ", k)
		}
	}
}

// ladder is a formula so deep, And and Or by turns, with one deep down.
func ladder(deep int, f formula) formula {
	for k := range deep - 1 {
		f = []func(l ...any) formula{and, or}[k%2](x(k), f)
	}
	return f
}

// denied is a formula within so many Nots.
func denied(f formula, times int) formula {
	for range times {
		f = not(f)
	}
	return f
}

// noEnd is a formula that has itself among its kids.
func noEnd() formula {
	f := formula{Op: api.And, Kids: make([]formula, 1)}
	f.Kids[0] = f
	return f
}

// wrongFormulas are formulas that may not be.
func wrongFormulas() []formula {
	a := is(x(0))
	l := []formula{
		{Op: 8}, {Op: 9, Kids: []formula{a}}, {Op: 255}, {Op: api.Not}, {Op: api.Not, Kids: []formula{a, a}}, {Op: api.Exists, Vars: []int{0}}, {Op: api.Forall, Vars: []int{0}, Kids: []formula{a, a}},
		exists(a), forall(a), exists(a, -1), forall(a, mostVars), exists(a, 1, 1), {Op: api.True, Kids: []formula{a}}, {Op: api.False, Vars: []int{0}}, {Op: api.True, Atom: a.Atom}, {Op: api.False, Atom: api.Atom{Kind: api.Eq}},
		{Op: api.Is, Atom: a.Atom, Kids: []formula{a}}, {Op: api.Is, Atom: a.Atom, Vars: []int{0}}, {Op: api.And, Vars: []int{0}}, {Op: api.And, Atom: a.Atom}, {Op: api.Or, Atom: api.Atom{Mod: whole.Of(1)}, Kids: []formula{a}},
		denied(a, mostDepth), ladder(mostDepth+1, a), {Op: api.And, Kids: each(mostNodes, leaf)}, noEnd(),
	}
	for _, a := range wrongAtoms() {
		l = append(l, is(a))
	}
	return l
}

// around are formulas that have another one within them.
func around(f formula) []formula {
	return []formula{f, not(f), and(f), or(f), and(no(), f), or(yes(), f), and(f, no()), or(f, x(1)), not(and(x(1), not(f))), and(or(x(0), x(1)), or(x(2), f))}
}

// TestErrors holds each row of the table against the rows behind it.
func TestErrors(t *testing.T) {
	quantified := []formula{exists(leaf(0), 0), forall(yes(), 3), exists(leaf(1), 0), exists(forall(leaf(0), 0), 1), exists(is(even(0)), 0)}
	divs := []formula{is(even(0)), is(div(1, 0)), is(div(3, 3)), is(div(1, 0, 0, 1)), is(div(mostNodes+1, 0, 0, 1)), is(div(math.MaxInt, 0, lastVar, 1))}
	fine := []formula{leaf(0), yes(), is(eq(3, 0, 2)), or(x(0), x(1))}
	within := func(lists ...[]formula) (l []formula) {
		for _, f := range slices.Concat(lists...) {
			l = append(l, around(f)...)
		}
		return l
	}
	meters := func() []*budget.Meter { return append(usedUp(), widest()) }
	for k, f := range within(fine, divs, quantified, wrongFormulas()) {
		for _, in := range []uint8{api.Real, api.Whole, 2, 255} {
			refuses(t, api.ErrNil, in, f, nil, "no meter, logic ", in, ", formula ", k)
		}
		for _, in := range []uint8{2, 3, 128, 255} {
			for _, m := range meters() {
				was := m.Spent()
				refuses(t, api.ErrArg, in, f, m, "logic ", in, ", formula ", k)
				equal(t, m.Spent(), was, "what was spent, logic ", in, ", formula ", k)
			}
		}
	}
	for k, f := range within(quantified, wrongFormulas(), []formula{and(div(2, 0), exists(leaf(0), 0)), or(formula{Op: 99}, even(0))}) {
		for _, in := range logics() {
			for _, m := range meters() {
				was := m.Spent()
				refuses(t, api.ErrForm, in, f, m, "logic ", in, ", formula ", k, " that may not be")
				equal(t, m.Spent(), was, "what was spent, logic ", in, ", formula ", k, " that may not be")
			}
		}
	}
	most := formula{Op: api.And, Kids: append(each(mostNodes-2, leaf), is(even(0)))}
	for k, f := range within(divs) {
		for n, g := range []formula{f, and(not(f), zero(0)), or(zero(0), x(1), f), most} {
			for _, m := range meters() {
				was := m.Spent()
				refuses(t, api.ErrSort, api.Real, g, m, "formula ", k, ", within ", n)
				equal(t, m.Spent(), was, "what was spent, formula ", k, ", within ", n)
			}
		}
	}
	// What nnf refuses for its nodes is refused.
	refuses(t, api.ErrBudget, api.Whole, not(div(mostNodes+1, 0, 0, 1)), widest(), "too many denials")
}

// choices is And of so many Ors, of so many atoms each, told by their variables.
func choices(many, kids int, v func(k, n int) int) formula {
	return formula{Op: api.And, Kids: each(many, func(k int) formula {
		return formula{Op: api.Or, Kids: each(kids, func(n int) formula { return leaf(v(k, n)) })}
	})}
}

// apartFrom has other variables in each Or.
func apartFrom(kids int) func(k, n int) int { return func(k, n int) int { return kids*k + n } }

// TestMostRows: as many conjunctions as any budget has, and more; what is refused is refused ahead of being made.
func TestMostRows(t *testing.T) {
	const bytes = 512 << 20
	taken := func(call func()) int {
		var ahead, behind runtime.MemStats
		runtime.ReadMemStats(&ahead)
		call()
		runtime.ReadMemStats(&behind)
		return int(behind.TotalAlloc - ahead.TotalAlloc)
	}
	for k, c := range []struct {
		f    formula
		most int // what is refused: as many rows there are at most
		want int
	}{
		{choices(2, 1024, apartFrom(1024)), mostRows, 1024},
		{choices(2, 1025, apartFrom(1025)), mostRows, 1025},
		{choices(2, 2000, apartFrom(2000)), mostRows, 2000},
		{choices(3, 1300, apartFrom(1300)), mostRows, 1300},
		{choices(1300, 2, apartFrom(2)), mostRows - 1, 1 << 19},
		{choices(1300, 2, apartFrom(2)), 1000, 512},
		{choices(2, 64, apartFrom(64)), 64*64 - 1, 64},
		{choices(1000, 3, func(k, n int) int { return 2*k + n }), 5000, 0},
		{choices(200, 10, func(k, n int) int { return (k*k + 7*n) % 97 }), 20000, 0},
	} {
		b := withRows(c.most)
		if k == 0 {
			// This is just what there may be.
			b.Rows--
		}
		m := metered(b)
		bytesTaken := taken(func() { refuses(t, api.ErrBudget, api.Real, c.f, m, "case ", k) })
		if bytesTaken > bytes {
			t.Errorf("case %d: %d bytes are taken up by what is refused", k, bytesTaken)
		}
		name, most, is := budget.Part(m.Why())
		equal(t, is && name == "rows" && most == b.Rows, true, "why, case ", k)
		if c.want > 0 {
			equal(t, m.Spent().Rows, c.want, "rows ahead of the refusal, case ", k)
		}
	}
	g, spent := formOf(t, api.Real, choices(2, 1024, apartFrom(1024)))
	equal(t, len(g), mostRows, "as many conjunctions as there may be")
	equal(t, spent.Rows, mostRows, "as many rows as there may be")
	tells(t, forms(g[1025]), forms(of(x(1), x(1025))), "one of many")
}

// TestMany: Or of as many kids as may be, alike or not, conjunctions of as many atoms, and And of many Ors that have much in common.
func TestMany(t *testing.T) {
	most := mostNodes - 1
	for _, in := range logics() {
		all := each(most, func(k int) list { return of(x(most - k)) })
		f := formula{Op: api.Or, Kids: each(most, func(k int) formula { return leaf(most - k) })}
		becomes(t, in, f, all...)
		_, spent := formOf(t, in, f)
		equal(t, spent.Rows, most, "rows: Or of many")
		refuses(t, api.ErrBudget, in, f, metered(withRows(most-1)), "Or of many, one row less")
		f.Op = api.And
		becomes(t, in, f, each(most, func(k int) api.Atom { return x(k + 1) }))
		refuses(t, api.ErrBudget, in, f, metered(withRows(most-1)), "And of many, one row less")
		f = formula{Op: api.Or, Kids: each(most, func(k int) formula { return leaf(k % 1000) })}
		g, spent := formOf(t, in, f)
		tells(t, g, each(1000, func(k int) list { return of(x(k)) }), "Or of many, some alike")
		equal(t, spent.Rows, 1001, "rows: Or of many, some alike")
		f = formula{Op: api.Or, Kids: each(1365, func(k int) formula { return and(zero(5), x(k)) })}
		becomes(t, in, f, each(1365, func(k int) list { return of(zero(5), x(k)) })...)
		f.Kids[1364] = is(zero(5))
		becomes(t, in, f, of(zero(5)))
		// Many Ors, of two of twenty atoms each.
		goesByModel(t, in, choices(50, 2, func(k, n int) int { return (k*(n+1) + k/20*n) % 20 }))
	}
	// Ors of two of sixteen atoms: their form has just the least choices of atoms that have one of each Or. All choices are tried, by their bits.
	const atoms = 16
	second := func(k int) int { return (k + 1 + k/atoms*2) % atoms }
	hasEach := func(chosen int) bool {
		for k := range 3 * atoms {
			if chosen>>(k%atoms)&1 == 0 && chosen>>second(k)&1 == 0 {
				return false
			}
		}
		return true
	}
	left := map[int]int{}
	for chosen := range 1 << atoms {
		least := hasEach(chosen)
		for k := range atoms {
			least = least && (chosen>>k&1 == 0 || !hasEach(chosen&^(1<<k)))
		}
		if least {
			left[chosen]++
		}
	}
	g, _ := formOf(t, api.Real, choices(3*atoms, 2, func(k, n int) int { return []int{k % atoms, second(k)}[n] }))
	equal(t, len(g), len(left), "how many least choices")
	for _, l := range g {
		chosen := 0
		for _, a := range l {
			chosen |= 1 << a.Term.Parts[0].Var
		}
		equal(t, left[chosen], 1, "a least choice: ", brief{l})
		delete(left, chosen)
	}
}

// TestManyLists: Short of many lists.
func TestManyLists(t *testing.T) {
	var pairs, more form
	for j := range 300 {
		for k := range 300 {
			pairs = append(pairs, of(x(j), x(300+k)))
			more = append(more, of(x(j), x(300+k), x(600+j)))
		}
	}
	equal(t, len(dnf.Short(pairs)), 90000, "many lists, none of which goes")
	tells(t, dnf.Short(slices.Concat(more, pairs, more)), pairs, "many lists, of which many go")
	equal(t, len(dnf.Short(append(pairs, each(300, func(k int) list { return of(x(k)) })...))), 300, "many lists, of which all but the last ones go")
	ones := each(100000, func(k int) list { return of(x(k * 7 % 100003)) })
	tells(t, dnf.Short(append(ones, ones...)), ones, "many lists, twice")
}

// lists are all lists of a form, each to its room's end.
func lists(l form) (words [][]uint32, parts [][]api.Part, atoms []list) {
	for _, one := range l {
		atoms = append(atoms, one[:cap(one)])
		for k := range one {
			a := &one[k]
			for n := range a.Term.Parts {
				c := a.Term.Parts[n].Coef.Limbs
				words = append(words, c[:cap(c)])
			}
			words = append(words, a.Term.Add.Limbs[:cap(a.Term.Add.Limbs)], a.Mod.Limbs[:cap(a.Mod.Limbs)])
			parts = append(parts, a.Term.Parts[:cap(a.Term.Parts)])
		}
	}
	return words, parts, atoms
}

// alone tells whether lists share nothing: each place of them holds what was written there, when all are written.
func alone[T any](l [][]T, write func(x *T, k int), holds func(x T, k int) bool) bool {
	count := 0
	for _, m := range l {
		for k := range m {
			write(&m[k], count)
			count++
		}
	}
	count = 0
	for _, m := range l {
		for k := range m {
			if !holds(m[k], count) {
				return false
			}
			count++
		}
	}
	return true
}

// apart tells whether no two lists of a form share memory. It writes all over it.
func apart(l form) bool {
	words, parts, atoms := lists(l)
	is := alone(words, func(x *uint32, k int) { *x = uint32(k) }, func(x uint32, k int) bool { return x == uint32(k) })
	is = is && alone(parts, func(x *api.Part, k int) { x.Var = k }, func(x api.Part, k int) bool { return x.Var == k })
	is = is && alone(atoms, func(x *api.Atom, k int) { x.Term.Parts = []api.Part{{Var: k}} }, func(x api.Atom, k int) bool { return x.Term.Parts[0].Var == k })
	for k := range l[:cap(l)] {
		l[:cap(l)][k] = nil
	}
	return is
}

// apartFormula tells likewise of a formula.
func apartFormula(f *formula) bool {
	var kids [][]formula
	var leaves list
	var gather func(f *formula)
	gather = func(f *formula) {
		leaves = append(leaves, f.Atom)
		kids = append(kids, f.Kids[:cap(f.Kids)])
		for k := range f.Kids {
			gather(&f.Kids[k])
		}
	}
	gather(f)
	is := apart(forms(leaves))
	return is && alone(kids, func(x *formula, k int) { x.Vars = []int{k} }, func(x formula, k int) bool { return x.Vars[0] == k })
}

// spareList is a list that has something behind its end, and a look at whether it is as it was.
func spareList[T any](l []T, behind T, looks *[]func() bool) []T {
	long := append(slices.Clone(l), behind, behind)
	kept := fmt.Sprint(long)
	*looks = append(*looks, func() bool { return fmt.Sprint(long) == kept })
	return long[:len(l)]
}

// spareAtom, spareForm, spare are what they are handed, all lists being such.
func spareAtom(a api.Atom, looks *[]func() bool) api.Atom {
	a.Mod.Limbs = spareList(a.Mod.Limbs, 9, looks)
	a.Term.Add.Limbs = spareList(a.Term.Add.Limbs, 9, looks)
	l := slices.Clone(a.Term.Parts)
	for k, p := range l {
		l[k].Coef.Limbs = spareList(p.Coef.Limbs, 9, looks)
	}
	a.Term.Parts = spareList(l, api.Part{Var: 9}, looks)
	return a
}
func spareForm(l form, looks *[]func() bool) form {
	out := each(len(l), func(k int) list {
		return spareList(each(len(l[k]), func(n int) api.Atom { return spareAtom(l[k][n], looks) }), x(9), looks)
	})
	return spareList(out, of(x(9)), looks)
}
func spare(f formula, looks *[]func() bool) formula {
	g := formula{Op: f.Op, Atom: spareAtom(f.Atom, looks), Vars: spareList(f.Vars, 9, looks)}
	g.Kids = spareList(each(len(f.Kids), func(k int) formula { return spare(f.Kids[k], looks) }), formula{Op: 9}, looks)
	return g
}

// R1: what is handed in stays, also behind its end, with an error and without; what is told shares no memory with it, nor within itself; it is told again.
func TestR1Stays(t *testing.T) {
	looked := func(looks []func() bool, what any) {
		t.Helper()
		for k, look := range looks {
			if !look() {
				t.Fatal("something that was handed in has changed:", k, what)
			}
		}
	}
	checkForm := func(in uint8, l form) {
		t.Helper()
		var looks []func() bool
		l = spareForm(l, &looks)
		was := fmt.Sprint(dnf.Short(l))
		g := dnf.Short(l)
		equal(t, apart(g), true, "no memory is shared: Short of ", brief{l})
		equal(t, fmt.Sprint(dnf.Short(l)), was, "Short, told again, of ", brief{l})
		f, e := dnf.Formula(in, l)
		told := fmt.Sprint(f, e)
		equal(t, apartFormula(&f), true, "no memory is shared: Formula of ", brief{l})
		f, e = dnf.Formula(in, l)
		equal(t, fmt.Sprint(f, e), told, "Formula, told again, of ", brief{l})
		for _, one := range l {
			equal(t, dnf.Conjunction(in, one), dnf.Conjunction(in, one), "Conjunction, told again, of ", brief{one})
		}
		looked(looks, brief{l})
	}
	for _, in := range logics() {
		check := func(f formula) {
			t.Helper()
			var looks []func() bool
			f = spare(f, &looks)
			for _, b := range []api.Budget{budget.Widest(), withSteps(3), withRows(2)} {
				g, e := dnf.Of(in, f, metered(b))
				told := fmt.Sprint(g, e)
				equal(t, apart(g), true, "no memory is shared: Of ", brief{f})
				g, e = dnf.Of(in, f, metered(b))
				equal(t, fmt.Sprint(g, e), told, "Of, told again, of ", brief{f})
				looked(looks, brief{f})
				checkForm(in, g)
			}
		}
		some(in, 218, 400, func(r *rand.Rand, f formula) { check(f) })
		r := rand.New(rand.NewSource(219))
		for range 100 {
			check(or(lengthened(r, in), lengthened(r, in)))
			check(and(or(x(0), x(1)), lengthened(r, in)))
			checkForm(in, madeLists(r, true))
		}
		// One formula in many places is many; so is one atom, and one list.
		twice := or(zero(0), and(x(1), le(4, 0, 6)))
		check(and(twice, or(twice, x(3)), not(not(twice))))
		for _, f := range []formula{exists(leaf(0), 0), is(even(0)), and(x(0), formula{Op: 99})} {
			check(f)
		}
		one := of(zero(0), x(1))
		checkForm(in, forms(one, of(x(2)), one, one[:1:1]))
		for _, a := range wrongAtoms() {
			checkForm(in, forms(of(a), of(a, a), of(x(0), a)))
		}
	}
}

// R1: whatever is in formulas, and lists: each call ends, and tells what is short, and conjunctions, or an error alone.
func TestR1Wild(t *testing.T) {
	r := rand.New(rand.NewSource(220))
	atoms := slices.Concat(few(api.Real), few(api.Whole), few(api.Whole), wrongAtoms()[:9], of(api.Atom{}))
	var wild func(deep int) formula
	wild = func(deep int) formula {
		f := formula{Op: uint8(r.Intn(10))}
		if f.Op == api.Is || r.Intn(60) == 0 {
			f.Atom = pick(r, atoms)
		}
		if f.Op >= api.Exists && r.Intn(3) > 0 || r.Intn(60) == 0 {
			f.Vars = []int{r.Intn(3)}
		}
		if f.Op >= api.Not && deep > 1 {
			for range 1 + r.Intn(3)*r.Intn(2) {
				f.Kids = append(f.Kids, wild(deep-1))
			}
		}
		return f
	}
	count := map[api.Errno]int{}
	for range 25000 {
		f := wild(1 + r.Intn(4))
		in := uint8(r.Intn(9) / 4)
		m := metered(api.Budget{Steps: r.Intn(3) * r.Intn(9), Rows: r.Intn(2) * mostRows, Limbs: r.Intn(2) * mostLong})
		g, e := dnf.Of(in, f, m)
		count[e]++
		if e == api.OK {
			becomes(t, in, formulaOf(t, in, g), g...)
		} else {
			equal(t, len(g), 0, "wild, beside the error: ", brief{f})
		}
		l := madeLists(r, true)
		h, e := dnf.Formula(in, l)
		isNone := func(l list) bool { return !dnf.Conjunction(in, l) }
		equal(t, e == api.OK, in < 2 && !slices.ContainsFunc(l, isNone), "wild: Formula of ", brief{l})
		if e != api.OK {
			tells(t, h, formula{}, "wild, beside the error: ", brief{l})
		}
	}
	for _, e := range []api.Errno{api.OK, api.ErrArg, api.ErrForm, api.ErrSort, api.ErrBudget} {
		if count[e] < 100 {
			t.Error("of", e, "only", count[e])
		}
	}
	dnf.Of(api.Real, leaf(0), &budget.Meter{})
}
