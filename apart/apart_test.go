package apart_test

import (
	"fmt"
	"maps"
	"math"
	"math/rand"
	"slices"
	"testing"

	"alidade/apart"
	"alidade/api"
	"alidade/eval"
	"alidade/logic"
	"alidade/rat"
	"alidade/whole"
)

const (
	mostNodes = 1 << 12
	mostDepth = 64
	mostVars  = 1 << 20
	lastVar   = mostVars - 1
	mostLong  = 1 << 16
)

// formula and block are written often.
type (
	formula = api.Formula
	block   = apart.Block
)

// linear is the term of a number, and of variables, each with its Coef behind it; they have to rise.
func linear(add int, l ...int) api.Term {
	t := api.Term{Add: whole.Of(add)}
	for ; len(l) > 0; l = l[2:] {
		t.Parts = append(t.Parts, api.Part{Var: l[0], Coef: whole.Of(l[1])})
	}
	return t
}

// leaf is an atom as a formula, made by hand.
func leaf(a api.Atom) formula { return formula{Op: api.Is, Atom: a} }

// le, lt, eq, div are atoms of linear terms, as formulas.
func le(add int, l ...int) formula { return leaf(api.Atom{Kind: api.Le, Term: linear(add, l...)}) }
func lt(add int, l ...int) formula { return leaf(api.Atom{Kind: api.Lt, Term: linear(add, l...)}) }
func eq(add int, l ...int) formula { return leaf(api.Atom{Kind: api.Eq, Term: linear(add, l...)}) }
func div(mod, add int, l ...int) formula {
	return leaf(api.Atom{Kind: api.Div, Term: linear(add, l...), Mod: whole.Of(mod)})
}

// x says of a variable that it is 0, or less.
func x(v int) formula { return le(0, v, 1) }

// same says of two variables, the first one being less, that they are the same.
func same(v, w int) formula { return eq(0, v, 1, w, -1) }

// These are made by hand, of whatever stands within.
func yes() formula                       { return formula{Op: api.True} }
func no() formula                        { return formula{Op: api.False} }
func not(f formula) formula              { return formula{Op: api.Not, Kids: []formula{f}} }
func and(l ...formula) formula           { return formula{Op: api.And, Kids: l} }
func or(l ...formula) formula            { return formula{Op: api.Or, Kids: l} }
func exists(f formula, l ...int) formula { return formula{Op: api.Exists, Vars: l, Kids: []formula{f}} }
func forall(f formula, l ...int) formula { return formula{Op: api.Forall, Vars: l, Kids: []formula{f}} }

// some and all are blocks.
func some(l ...int) block { return block{Vars: l} }
func all(l ...int) block  { return block{Forall: true, Vars: l} }

// denied is a formula within so many Nots.
func denied(f formula, times int) formula {
	for range times {
		f = not(f)
	}
	return f
}

// row are the numbers from one on that are less than another one.
func row(from, behind int) []int {
	var l []int
	for k := from; k < behind; k++ {
		l = append(l, k)
	}
	return l
}

// turned is a list from behind.
func turned[T any](l []T) []T {
	l = slices.Clone(l)
	slices.Reverse(l)
	return l
}

// each is what a call makes of so many numbers, from 0 on.
func each(many int, call func(k int) formula) []formula {
	var l []formula
	for k := range many {
		l = append(l, call(k))
	}
	return l
}

// long is an atom that has all of some variables, which have to rise.
func long(vars []int) formula {
	one := whole.Of(1)
	var l []api.Part
	for _, v := range vars {
		l = append(l, api.Part{Var: v, Coef: one})
	}
	return leaf(api.Atom{Term: api.Term{Parts: l}})
}

// spell tells all that something has; none and nothing are told the same way.
func spell(f any) string { return fmt.Sprint(f) }

// brief is something whose text is told briefly, and made only when it is told.
type brief struct{ of any }

func (b brief) String() string {
	s := spell(b.of)
	if len(s) > 400 {
		s = s[:200] + " .. " + s[len(s)-200:]
	}
	return s
}

// equal complains unless something is what is wanted.
func equal[T comparable](t *testing.T, got, want T, what ...any) {
	t.Helper()
	if got != want {
		t.Errorf("%s: got %v, want %v", fmt.Sprint(what...), got, want)
	}
}

// tells complains unless something is what is wanted, by all that it has.
func tells(t *testing.T, got, want any, what ...any) {
	t.Helper()
	if spell(got) != spell(want) {
		t.Errorf("%s: got %v, want %v", fmt.Sprint(what...), brief{got}, brief{want})
	}
}

// made is a formula made apart, and the number behind.
func made(t *testing.T, f formula, next int) (formula, int) {
	t.Helper()
	g, after, e := apart.Apart(f, next)
	if e != api.OK {
		t.Errorf("Apart: refused: %v: from %d on, %v", e, next, brief{f})
	}
	return g, after
}

// parted is what stands ahead of a formula, what is left, and the number behind.
func parted(t *testing.T, f formula, next int) ([]block, formula, int) {
	t.Helper()
	l, g, after, e := apart.Prenex(f, next)
	if e != api.OK {
		t.Errorf("Prenex: refused: %v: from %d on, %v", e, next, brief{f})
	}
	return l, g, after
}

// joined is a formula with blocks ahead.
func joined(t *testing.T, l []block, g formula) formula {
	t.Helper()
	f, e := apart.Join(l, g)
	if e != api.OK {
		t.Errorf("Join: refused: %v: %v, ahead of %v", e, brief{l}, brief{g})
	}
	return f
}

// refuses complains unless Apart and Prenex tell an error, and nothing beside it.
func refuses(t *testing.T, want api.Errno, f formula, next int, what ...any) {
	t.Helper()
	g, after, e := apart.Apart(f, next)
	equal(t, e, want, append([]any{"Apart: "}, what...)...)
	equal(t, after, 0, append([]any{"Apart, the number beside the error: "}, what...)...)
	tells(t, g, formula{}, append([]any{"Apart, beside the error: "}, what...)...)
	l, g, after, e := apart.Prenex(f, next)
	equal(t, e, want, append([]any{"Prenex: "}, what...)...)
	equal(t, after, 0, append([]any{"Prenex, the number beside the error: "}, what...)...)
	tells(t, g, formula{}, append([]any{"Prenex, beside the error: "}, what...)...)
	equal(t, len(l), 0, append([]any{"Prenex, blocks beside the error: "}, what...)...)
}

// joinsNot complains unless Join tells an error, and nothing beside it.
func joinsNot(t *testing.T, want api.Errno, l []block, g formula, what ...any) {
	t.Helper()
	f, e := apart.Join(l, g)
	equal(t, e, want, append([]any{"Join: "}, what...)...)
	tells(t, f, formula{}, append([]any{"Join, beside the error: "}, what...)...)
}

// A model has all numbers that are given out ahead, and asks of each variable of an atom all quantifiers around it, from the innermost one on.

// modelFree are the variables of an atom, and those of all kids without a quantifier's Vars.
func modelFree(f formula) map[int]int {
	free := map[int]int{}
	for _, p := range f.Atom.Term.Parts {
		free[p.Var]++
	}
	for _, kid := range f.Kids {
		maps.Copy(free, modelFree(kid))
	}
	for _, v := range f.Vars {
		delete(free, v)
	}
	return free
}

// modelBound are all Vars of all quantifiers, in the row in which they are bound.
func modelBound(f formula) []int {
	l := slices.Clone(f.Vars)
	for _, kid := range f.Kids {
		l = append(l, modelBound(kid)...)
	}
	return l
}

// modelNumbers are the numbers that a formula's bound variables become, and the one behind.
func modelNumbers(f formula, next int) (l []int, after int) {
	free, many := modelFree(f), len(modelBound(f))
	after = next
	for n := next; len(l) < many; n++ {
		if free[n] == 0 {
			l = append(l, n)
			after = n + 1
		}
	}
	return l, after
}

// level is a quantifier around something: what its Vars were, and are.
type level struct{ were, are []int }

// modelApart is a formula made apart. It takes the numbers from their list.
func modelApart(f formula, around []level, numbers *[]int) formula {
	g := formula{Op: f.Op, Atom: f.Atom}
	g.Atom.Term.Parts = slices.Clone(f.Atom.Term.Parts)
	for k, p := range f.Atom.Term.Parts {
		for _, l := range around {
			if at := slices.Index(l.were, p.Var); at >= 0 {
				g.Atom.Term.Parts[k].Var = l.are[at]
			}
		}
	}
	slices.SortFunc(g.Atom.Term.Parts, func(p, q api.Part) int { return p.Var - q.Var })
	g.Vars, *numbers = slices.Clone((*numbers)[:len(f.Vars)]), (*numbers)[len(f.Vars):]
	around = append(slices.Clone(around), level{f.Vars, g.Vars})
	for _, kid := range f.Kids {
		g.Kids = append(g.Kids, modelApart(kid, around, numbers))
	}
	return g
}

// modelAhead is what stands ahead of a formula that was made apart, before blocks of one kind are one.
func modelAhead(f formula) []block {
	var l []block
	if f.Op == api.Exists || f.Op == api.Forall {
		l = append(l, block{f.Op == api.Forall, f.Vars})
	}
	for _, kid := range f.Kids {
		l = append(l, modelAhead(kid)...)
	}
	if f.Op == api.Not {
		for k := range l {
			l[k].Forall = !l[k].Forall
		}
	}
	return l
}

// modelMerged are blocks without two alike one behind the other: the first two such become one, till there are none.
func modelMerged(l []block) []block {
	for k := 1; k < len(l); k++ {
		if l[k-1].Forall == l[k].Forall {
			one := block{l[k].Forall, slices.Concat(l[k-1].Vars, l[k].Vars)}
			return modelMerged(slices.Concat(l[:k-1], []block{one}, l[k+1:]))
		}
	}
	return l
}

// modelLeft is a formula without its quantifiers.
func modelLeft(f formula) formula {
	for len(f.Vars) > 0 {
		f = f.Kids[0]
	}
	f.Kids = slices.Clone(f.Kids)
	for k, kid := range f.Kids {
		f.Kids[k] = modelLeft(kid)
	}
	return f
}

// modelIs tells whether a formula's bound variables are apart.
func modelIs(f formula) bool {
	count := modelFree(f)
	for v := range count {
		count[v] = 1
	}
	for _, v := range modelBound(f) {
		count[v]++
	}
	for _, n := range count {
		if n > 1 {
			return false
		}
	}
	return true
}

// goesByModel complains unless all calls tell of a formula what the model has.
func goesByModel(t *testing.T, f formula, next int) {
	t.Helper()
	numbers, after := modelNumbers(f, next)
	want := modelApart(f, nil, &numbers)
	g, behind := made(t, f, next)
	tells(t, g, want, "Apart, from ", next, " on, of ", brief{f})
	equal(t, behind, after, "the number behind, from ", next, " on, of ", brief{f})
	l, left, behind := parted(t, f, next)
	tells(t, l, modelMerged(modelAhead(want)), "what stands ahead, from ", next, " on, of ", brief{f})
	tells(t, left, modelLeft(want), "what is left, from ", next, " on, of ", brief{f})
	equal(t, behind, after, "Prenex, the number behind, from ", next, " on, of ", brief{f})
	equal(t, apart.Is(f), modelIs(f), "Is of ", brief{f})
}

// pick is one of a list.
func pick[T any](r *rand.Rand, l []T) T { return l[r.Intn(len(l))] }

// madeAtom is an atom of a few variables.
func madeAtom(r *rand.Rand) formula {
	a := api.Atom{Kind: uint8(r.Intn(4)), Term: api.Term{Add: whole.Of(r.Intn(7) - 3)}}
	if a.Kind == api.Div {
		a.Mod = whole.Of(1 + r.Intn(3))
	}
	for v := range 6 {
		if coef := r.Intn(7) - 3; coef != 0 && r.Intn(3) == 0 {
			a.Term.Parts = append(a.Term.Parts, api.Part{Var: v, Coef: whole.Of(coef)})
		}
	}
	return leaf(a)
}

// wanton is a formula of a few variables, no deeper than that, whose quantifiers have together no more Vars than are left.
func wanton(r *rand.Rand, deep int, left *int) formula {
	f := formula{Op: pick(r, []uint8{api.True, api.False, api.Is, api.Is, api.Is, api.Not, api.Not, api.And, api.Or, api.Exists, api.Exists, api.Forall, api.Forall})}
	if f.Op >= api.Exists && *left == 0 || f.Op > api.Is && deep == 1 {
		f.Op = api.Is
	}
	kids := 1
	switch f.Op {
	case api.True, api.False:
		kids = 0
	case api.Is:
		return madeAtom(r)
	case api.And, api.Or:
		kids = r.Intn(4)
	case api.Exists, api.Forall:
		f.Vars = r.Perm(6)[:1+r.Intn(min(3, *left))]
		*left -= len(f.Vars)
	}
	for range kids {
		f.Kids = append(f.Kids, wanton(r, deep-1, left))
	}
	return f
}

// chance hands formulas of a fixed seed to a test, whose quantifiers have together no more Vars than that.
func chance(seed int64, many, vars int, test func(r *rand.Rand, f formula)) {
	r := rand.New(rand.NewSource(seed))
	for range many {
		left := vars
		test(r, wanton(r, 1+r.Intn(7), &left))
	}
}

// short are all short formulas over a few atoms, and quantifiers.
func short() []formula {
	leaves := []formula{yes(), x(0), same(0, 1), and()}
	l := leaves
	for range 2 {
		kids := l
		l = slices.Clone(leaves)
		for _, kid := range kids {
			l = append(l, not(kid), exists(kid, 0), forall(kid, 0), exists(kid, 1), forall(kid, 1, 0), exists(kid, 2))
			for _, other := range kids {
				l = append(l, and(kid, other), or(kid, other))
			}
		}
	}
	return l
}

// TestExamples are those of the chapter.
func TestExamples(t *testing.T) {
	f := exists(and(x(0), exists(same(0, 1), 0)), 0)
	g, after := made(t, f, 1)
	// The Coefs stand by the variables: of x3 = x1 that of x1 is ahead.
	tells(t, g, exists(and(x(2), exists(eq(0, 1, -1, 3, 1), 3)), 2), "Apart")
	equal(t, after, 4, "the number behind")
	l, left, after := parted(t, f, 1)
	tells(t, l, []block{some(2, 3)}, "blocks")
	tells(t, left, and(x(2), eq(0, 1, -1, 3, 1)), "what is left")
	equal(t, after, 4, "Prenex, the number behind")
	l, left, _ = parted(t, not(exists(x(0), 0)), 0)
	tells(t, l, []block{all(0)}, "blocks of a Not")
	tells(t, left, not(x(0)), "what is left of a Not")
	l, left, _ = parted(t, or(forall(x(0), 0), exists(eq(0, 0, 1), 0)), 0)
	tells(t, l, []block{all(0), some(1)}, "blocks of an Or")
	tells(t, left, or(x(0), eq(0, 1, 1)), "what is left of an Or")
}

// P20.1: the numbers that bound variables become, in their row, and the one behind.
func TestP20_1Apart(t *testing.T) {
	for k, c := range []struct {
		f     formula
		next  int
		want  formula
		after int
	}{
		// Without quantifiers it is what it was.
		{yes(), 0, yes(), 0}, {no(), 7, no(), 7}, {x(3), 3, x(3), 3}, {and(), 2, and(), 2}, {not(or(x(0), and(same(1, 4)))), 1, not(or(x(0), and(same(1, 4)))), 1},
		{x(0), mostVars, x(0), mostVars}, {x(lastVar), mostVars + 1, x(lastVar), mostVars + 1}, {div(3, 1, 2, 5), math.MaxInt, div(3, 1, 2, 5), math.MaxInt},
		// One quantifier.
		{exists(x(0), 0), 0, exists(x(0), 0), 1}, {exists(x(0), 0), 5, exists(x(5), 5), 6}, {forall(x(7), 7), 0, forall(x(0), 0), 1}, {forall(x(0), 0), lastVar, forall(x(lastVar), lastVar), mostVars},
		{exists(x(0), 1), 3, exists(x(0), 3), 4}, {exists(yes(), 9), 2, exists(yes(), 2), 3}, {exists(div(4, 3, 1, 2, 2, -5), 2), 6, exists(div(4, 3, 1, 2, 6, -5), 6), 7},
		// Within one another, with the same variable, and with others.
		{exists(exists(x(0), 0), 0), 1, exists(exists(x(2), 2), 1), 3}, {exists(and(x(0), forall(x(0), 0), x(0)), 0), 4, exists(and(x(4), forall(x(5), 5), x(4)), 4), 6},
		{exists(forall(exists(and(x(0), x(1)), 0), 1), 0), 2, exists(forall(exists(and(x(4), x(3)), 4), 3), 2), 5}, {exists(or(same(0, 1), forall(same(0, 1), 1)), 0, 1), 0, exists(or(same(0, 1), forall(same(0, 2), 2)), 0, 1), 3},
		// One beside the other: a kid's ahead of those of the next one.
		{and(exists(x(0), 0), exists(x(0), 0)), 0, and(exists(x(0), 0), exists(x(1), 1)), 2}, {or(forall(x(1), 1), x(0), exists(same(0, 1), 1)), 3, or(forall(x(3), 3), x(0), exists(eq(0, 0, 1, 4, -1), 4)), 5},
		{and(exists(forall(same(0, 1), 1), 0), exists(x(1), 1)), 0, and(exists(forall(same(0, 1), 1), 0), exists(x(2), 2)), 3}, {exists(and(exists(x(1), 1), exists(x(2), 2)), 0), 0, exists(and(exists(x(1), 1), exists(x(2), 2)), 0), 3},
		{not(exists(not(forall(x(5), 5)), 5)), 6, not(exists(not(forall(x(7), 7)), 6)), 8},
		// Free in one kid, bound in another one: the free one stays, and is passed over.
		{and(x(0), exists(x(0), 0)), 0, and(x(0), exists(x(1), 1)), 2}, {and(exists(x(0), 0), x(0)), 0, and(exists(x(1), 1), x(0)), 2}, {or(forall(same(1, 2), 1), same(1, 3)), 1, or(forall(eq(0, 2, -1, 4, 1), 4), same(1, 3)), 5},
		{and(exists(and(x(0), exists(same(0, 1), 0)), 0), x(0)), 0, and(exists(and(x(2), exists(eq(0, 1, -1, 3, 1), 3)), 2), x(0)), 4},
		// Vars in a row that does not rise, and such that stand nowhere.
		{exists(and(x(2), x(9), x(4)), 9, 2, 4), 10, exists(and(x(11), x(10), x(12)), 10, 11, 12), 13}, {forall(same(3, 8), 8, 5, 3, 6), 0, forall(eq(0, 0, -1, 2, 1), 0, 1, 2, 3), 4}, {exists(yes(), 3, 1, 2), 1, exists(yes(), 1, 2, 3), 4},
		// A bound variable that becomes itself, and others that become each other.
		{exists(same(0, 1), 1, 0), 0, exists(eq(0, 0, -1, 1, 1), 0, 1), 2}, {exists(exists(same(0, 1), 0), 1), 0, exists(exists(eq(0, 0, -1, 1, 1), 1), 0), 2}, {forall(le(0, 0, 2, 1, 3, 2, 5), 2, 0, 1), 0, forall(le(0, 0, 5, 1, 2, 2, 3), 0, 1, 2), 3},
		{exists(le(1, 4, 1, 5, 2, 6, 3), 6, 5, 4), 4, exists(le(1, 4, 3, 5, 2, 6, 1), 4, 5, 6), 7}, {exists(le(1, 4, 1, 5, 2, 6, 3), 4, 6), 5, exists(le(1, 5, 2, 6, 1, 7, 3), 6, 7), 8},
		{exists(and(x(1), exists(and(x(2), exists(x(3), 3)), 2)), 1), 2, exists(and(x(2), exists(and(x(3), exists(x(4), 4)), 3)), 2), 5},
	} {
		g, after := made(t, c.f, c.next)
		tells(t, g, c.want, "case ", k)
		equal(t, after, c.after, "the number behind, case ", k)
		equal(t, apart.Is(g), true, "Is, case ", k)
	}
}

// P20.1: free variables that are passed over: just next, just behind it, in long rows, and the last one.
func TestP20_1PassedOver(t *testing.T) {
	// with is a formula with free variables, and so many Vars, that are not bound around those.
	with := func(free []int, vars int) formula {
		return and(long(free), exists(yes(), row(0, vars)...))
	}
	for k, c := range []struct {
		free, numbers []int
		next          int
	}{
		{[]int{5}, []int{6}, 5}, {[]int{5}, []int{6, 7, 8}, 5}, {[]int{6}, []int{5}, 5}, {[]int{6}, []int{5, 7}, 5}, {[]int{6}, []int{5, 7, 8}, 5}, {[]int{4}, []int{5, 6}, 5}, {[]int{4, 5, 6}, []int{7}, 5},
		{[]int{0}, []int{1, 2}, 0}, {[]int{1}, []int{0, 2}, 0}, {[]int{5, 7, 9}, []int{6, 8, 10, 11}, 5}, {[]int{5, 7, 9}, []int{6, 8}, 5}, {[]int{7, 8}, []int{5, 6}, 5}, {[]int{7, 8}, []int{5, 6, 9}, 5},
		{row(3, 3003), []int{3003, 3004}, 3}, {row(3, 3003), []int{3003}, 1500}, {row(3, 3003), []int{0, 1, 2, 3003, 3004}, 0}, {row(4, 3003), []int{3, 3003}, 3}, {row(4, 3003), []int{3}, 3},
		{row(mostVars-3000, mostVars), []int{mostVars - 3001}, mostVars - 3001}, {row(mostVars-3000, mostVars), []int{mostVars - 3002, mostVars - 3001}, mostVars - 3002}, {row(mostVars-3000, lastVar), []int{lastVar}, mostVars - 3000},
		{[]int{lastVar}, []int{lastVar - 1}, lastVar - 1}, {[]int{lastVar}, []int{lastVar - 2, lastVar - 1}, lastVar - 2}, {[]int{lastVar - 1}, []int{lastVar}, lastVar - 1}, {[]int{lastVar - 1}, []int{lastVar - 2, lastVar}, lastVar - 2},
	} {
		f := with(c.free, len(c.numbers))
		g, after := made(t, f, c.next)
		tells(t, g.Kids[1].Vars, c.numbers, "case ", k)
		tells(t, g.Kids[0], f.Kids[0], "what is free, case ", k)
		// What is free just behind the last one is not passed over, as nothing is given out behind it.
		equal(t, after, c.numbers[len(c.numbers)-1]+1, "the number behind, case ", k)
		goesByModel(t, f, c.next)
	}
	for k, c := range []struct {
		free []int
		vars int
		next int
	}{
		{[]int{lastVar}, 1, lastVar}, {[]int{lastVar}, 2, lastVar - 1}, {[]int{lastVar - 1}, 3, lastVar - 2}, {row(mostVars-3000, mostVars), 1, mostVars - 3000}, {row(mostVars-3000, mostVars), 1, mostVars - 1}, {row(mostVars-3000, mostVars), 2, mostVars - 3001}, {row(mostVars-3000, lastVar), 2, mostVars - 3000},
	} {
		refuses(t, api.ErrTooLarge, with(c.free, c.vars), c.next, "none is left, case ", k)
	}
	// Only one number is free to be given out, in the midst of all others.
	most := long(slices.Concat(row(0, 4000), row(4001, mostVars)))
	g, after := made(t, and(most, exists(x(7), 7)), 0)
	tells(t, g.Kids[1], exists(x(4000), 4000), "one is left")
	equal(t, after, 4001, "the number behind, where one was left")
	equal(t, logic.Same(g.Kids[0], most), true, "what is free, where one was left")
	refuses(t, api.ErrTooLarge, and(most, exists(x(7), 7)), 4001, "one is left, but ahead of next")
	refuses(t, api.ErrTooLarge, and(most, exists(x(7), 7, 8)), 0, "one is left, and two are asked for")
}

// P20.1: all short formulas, and others of a fixed seed, against the model.
func TestP20_1Model(t *testing.T) {
	for _, f := range short() {
		for _, next := range []int{0, 1} {
			goesByModel(t, f, next)
		}
	}
	chance(201, 20000, 1000, func(r *rand.Rand, f formula) {
		goesByModel(t, f, r.Intn(9))
		g, _ := made(t, f, r.Intn(9))
		goesByModel(t, g, r.Intn(9))
		goesByModel(t, f, mostVars-1000+r.Intn(10))
	})
}

// P20.1: whether bound variables are apart.
func TestP20_1Is(t *testing.T) {
	for k, f := range []formula{
		yes(), no(), x(0), and(), or(x(0), x(0)), not(same(0, 1)), exists(x(0), 0), exists(yes(), 0), exists(x(1), 0), forall(same(0, 1), 0), forall(same(3, 4), 4, 3), exists(exists(x(0), 1), 0), exists(forall(same(0, 1), 0), 1),
		and(exists(x(0), 0), exists(x(1), 1)), or(x(5), forall(x(0), 0, 2, 4), exists(x(1), 3, 1)), not(exists(not(forall(same(lastVar-1, lastVar), lastVar)), 0)), exists(yes(), row(0, mostVars)...), and(exists(yes(), turned(row(0, 1000))...), exists(yes(), row(1000, 2000)...)),
		and(exists(yes(), 7), long(row(8, 2000))),
	} {
		equal(t, apart.Is(f), true, "apart, case ", k)
		equal(t, apart.Is(not(f)), true, "apart, within a Not, case ", k)
	}
	for k, f := range []formula{
		exists(exists(x(0), 0), 0), exists(forall(yes(), 0), 0), exists(exists(exists(yes(), 0), 1), 0), and(exists(x(0), 0), exists(x(0), 0)), or(exists(x(0), 0), forall(yes(), 0)), exists(and(exists(x(1), 1), exists(x(2), 1)), 0), exists(exists(yes(), 3, 4, 5), 5, 6),
		and(x(0), exists(x(0), 0)), and(exists(x(0), 0), x(0)), and(exists(yes(), 0), x(0)), or(exists(x(2), 3, 1), same(0, 1)), exists(or(same(0, 1), forall(x(0), 1)), 0), not(and(forall(same(0, 1), 0), not(x(0)))), and(exists(yes(), 7), long(row(7, 2000))), and(exists(yes(), 1999), long(row(7, 2000))),
		and(exists(yes(), row(0, mostVars)...), x(lastVar)), and(exists(yes(), row(0, mostVars)...), forall(yes(), 12)), and(exists(yes(), turned(row(0, 1000))...), exists(yes(), row(999, 2000)...)),
	} {
		equal(t, apart.Is(f), false, "not apart, case ", k)
		equal(t, apart.Is(not(f)), false, "not apart, within a Not, case ", k)
	}
	for k, f := range wrongFormulas() {
		equal(t, apart.Is(f), false, "Is of formula ", k, ", which may not be")
	}
}

// P20.2: what stands ahead, and what is left.
func TestP20_2Prenex(t *testing.T) {
	for k, c := range []struct {
		f    formula
		next int
		want []block
		left formula
	}{
		{yes(), 3, nil, yes()}, {x(0), 0, nil, x(0)}, {not(not(x(0))), 0, nil, not(not(x(0)))}, {and(and(), or(no())), 0, nil, and(and(), or(no()))},
		{exists(x(0), 0), 4, []block{some(4)}, x(4)}, {forall(same(0, 1), 1, 0), 4, []block{all(4, 5)}, eq(0, 4, -1, 5, 1)}, {exists(yes(), 1, 2), 0, []block{some(0, 1)}, yes()},
		// Of one kind they are one, of both kinds not.
		{exists(exists(same(0, 1), 1), 0), 0, []block{some(0, 1)}, same(0, 1)}, {forall(forall(same(0, 1), 1, 2), 0, 3), 0, []block{all(0, 1, 2, 3)}, eq(0, 0, 1, 2, -1)}, {exists(forall(same(0, 1), 1), 0), 0, []block{some(0), all(1)}, same(0, 1)}, {forall(exists(same(0, 1), 1), 0), 0, []block{all(0), some(1)}, same(0, 1)},
		{exists(forall(exists(x(0), 0), 0), 0), 0, []block{some(0), all(1), some(2)}, x(2)}, {exists(exists(forall(forall(exists(x(0), 0), 0), 0), 0), 0), 0, []block{some(0, 1), all(2, 3), some(4)}, x(4)},
		// A Not turns what is within.
		{not(exists(x(0), 0)), 0, []block{all(0)}, not(x(0))}, {not(forall(x(0), 0)), 0, []block{some(0)}, not(x(0))}, {not(not(exists(x(0), 0))), 0, []block{some(0)}, not(not(x(0)))}, {not(not(not(forall(x(0), 0)))), 0, []block{some(0)}, not(not(not(x(0))))},
		{not(exists(forall(same(0, 1), 1), 0)), 0, []block{all(0), some(1)}, not(same(0, 1))}, {exists(not(exists(same(0, 1), 1)), 0), 0, []block{some(0), all(1)}, not(same(0, 1))}, {exists(not(forall(same(0, 1), 1)), 0), 0, []block{some(0, 1)}, not(same(0, 1))},
		{not(exists(not(exists(not(exists(x(0), 0)), 0)), 0)), 0, []block{all(0), some(1), all(2)}, not(not(not(x(2))))}, {not(exists(not(forall(not(exists(x(0), 0)), 0)), 0)), 0, []block{all(0, 1, 2)}, not(not(not(x(2))))},
		// Of And, Or all of a kid's are ahead of all of the next one's.
		{and(exists(x(0), 0), exists(x(0), 0)), 0, []block{some(0, 1)}, and(x(0), x(1))}, {or(forall(x(0), 0), forall(x(0), 0), x(5)), 0, []block{all(0, 1)}, or(x(0), x(1), x(5))}, {and(forall(x(0), 0), exists(x(0), 0)), 0, []block{all(0), some(1)}, and(x(0), x(1))},
		{or(exists(x(0), 0), forall(x(0), 0), exists(x(0), 0)), 0, []block{some(0), all(1), some(2)}, or(x(0), x(1), x(2))}, {and(exists(forall(same(0, 1), 1), 0), exists(x(0), 0)), 0, []block{some(0), all(1), some(2)}, and(same(0, 1), x(2))}, {and(exists(forall(same(0, 1), 1), 0), forall(x(0), 0)), 0, []block{some(0), all(1, 2)}, and(same(0, 1), x(2))},
		{or(exists(x(0), 0), not(forall(x(0), 0)), not(exists(x(0), 0))), 0, []block{some(0, 1), all(2)}, or(x(0), not(x(1)), not(x(2)))}, {not(and(exists(x(0), 0), not(exists(x(0), 0)), forall(x(0), 0))), 0, []block{all(0), some(1, 2)}, not(and(x(0), not(x(1)), x(2)))},
		{exists(or(x(0), and(forall(same(0, 1), 1), yes()), not(forall(x(2), 2))), 0), 0, []block{some(0), all(1), some(2)}, or(x(0), and(same(0, 1), yes()), not(x(2)))}, {and(x(0), and(), or(exists(x(0), 0)), no()), 0, []block{some(1)}, and(x(0), and(), or(x(1)), no())},
		{exists(and(exists(and(x(0), x(1)), 1)), 0), 0, []block{some(0, 1)}, and(and(x(0), x(1)))}, {and(exists(and(x(0)), 0), exists(or(), 0)), 0, []block{some(0, 1)}, and(and(x(0)), or())},
		{and(x(1), exists(x(0), 0), exists(x(0), 0), x(3)), 0, []block{some(0, 2)}, and(x(1), x(0), x(2), x(3))}, {forall(forall(le(0, 2, 1, 5, 3), 5), 2, 9, 4), 2, []block{all(2, 3, 4, 5)}, le(0, 2, 1, 5, 3)},
	} {
		l, left, _ := parted(t, c.f, c.next)
		tells(t, l, c.want, "what stands ahead, case ", k)
		tells(t, left, c.left, "what is left, case ", k)
		goesByModel(t, c.f, c.next)
		// Within a Not each is of the other kind.
		l, left, _ = parted(t, not(c.f), c.next)
		for n := range c.want {
			c.want[n].Forall = !c.want[n].Forall
		}
		tells(t, l, c.want, "what stands ahead of the Not, case ", k)
		tells(t, left, not(c.left), "what is left of the Not, case ", k)
	}
}

// P20.2: blocks ahead of a formula, whatever is within.
func TestP20_2Join(t *testing.T) {
	deep := denied(x(0), mostDepth-1)
	large := and(each(mostNodes-1, x)...)
	for k, c := range []struct {
		l    []block
		g    formula
		want formula
	}{
		{nil, x(0), x(0)}, {[]block{}, exists(x(0), 0), exists(x(0), 0)}, {nil, yes(), yes()}, {nil, deep, deep}, {nil, large, large},
		{[]block{some(0)}, x(0), exists(x(0), 0)}, {[]block{all(3, 1, 2)}, x(0), forall(x(0), 3, 1, 2)}, {[]block{some(lastVar, 0)}, and(), exists(and(), lastVar, 0)},
		{[]block{some(0), all(1)}, same(0, 1), exists(forall(same(0, 1), 1), 0)}, {[]block{all(0), some(1), all(2)}, x(3), forall(exists(forall(x(3), 2), 1), 0)},
		// Of one kind, with the same variable, ahead of quantifiers.
		{[]block{some(0), some(1)}, x(0), exists(exists(x(0), 1), 0)}, {[]block{all(0, 1), all(1, 0)}, x(0), forall(forall(x(0), 1, 0), 0, 1)}, {[]block{some(0), all(0), some(0)}, x(0), exists(forall(exists(x(0), 0), 0), 0)},
		{[]block{some(0)}, exists(x(0), 0), exists(exists(x(0), 0), 0)}, {[]block{all(1)}, not(forall(same(0, 1), 0)), forall(not(forall(same(0, 1), 0)), 1)},
	} {
		tells(t, joined(t, c.l, c.g), c.want, "Join, case ", k)
	}
	for _, f := range wrongFormulas() {
		for k, l := range [][]block{nil, {some(0)}, {some(0), all(1)}, {some()}, {all(-1)}, slices.Repeat([]block{some(0)}, 70)} {
			joinsNot(t, api.ErrForm, l, f, "a formula that may not be, blocks ", k)
		}
	}
	for k, wrong := range wrongBlocks() {
		for _, g := range []formula{yes(), x(0), exists(x(0), 0), deep, large} {
			for n, l := range [][]block{{wrong}, {wrong, some(0)}, {some(0), wrong}, {all(0), wrong, some(1)}, append(slices.Repeat([]block{some(0)}, 70), wrong)} {
				joinsNot(t, api.ErrForm, l, g, "block ", k, " that may not be, within ", n)
			}
		}
	}
}

// wrongBlocks are blocks that may not be.
func wrongBlocks() []block {
	return []block{some(), all(), {Vars: []int{}}, some(-1), all(mostVars), some(0, -1), all(mostVars, 0), some(math.MaxInt), all(math.MinInt), some(0, 0), all(3, 4, 5, 3), some(lastVar, 1, 2, lastVar), some(append(row(0, 2000), 1000)...), all(append(row(0, mostVars), 7)...), some(slices.Repeat([]int{3}, 5)...)}
}

// TestJoinTooLarge: as deep, or as large, as may be, less as many as there are blocks, and one more.
func TestJoinTooLarge(t *testing.T) {
	for _, many := range []int{1, 2, 3, 10, 62, 63} {
		l := slices.Repeat([]block{some(0), all(1, 0)}, many)[:many]
		for k, f := range []formula{denied(x(0), mostDepth-1-many), denied(exists(x(1), 2), max(0, mostDepth-2-many)), and(each(mostNodes-1-many, x)...), not(and(each(mostNodes-2-many, x)...))} {
			if logic.Depth(f)+many > mostDepth {
				continue
			}
			g := joined(t, l, f)
			equal(t, logic.May(g), true, "what is joined may be, with ", many, " blocks, case ", k)
			equal(t, logic.Size(g), logic.Size(f)+many, "how large it is, with ", many, " blocks, case ", k)
			equal(t, logic.Depth(g), logic.Depth(f)+many, "how deep it is, with ", many, " blocks, case ", k)
		}
		joinsNot(t, api.ErrTooLarge, l, denied(x(0), mostDepth-many), "one deeper, with ", many)
		joinsNot(t, api.ErrTooLarge, l, denied(x(0), mostDepth-1), "as deep as may be, with ", many)
		joinsNot(t, api.ErrTooLarge, l, and(each(mostNodes-many, x)...), "one larger, with ", many)
		joinsNot(t, api.ErrTooLarge, l, and(each(mostNodes-1, x)...), "as large as may be, with ", many)
	}
	joinsNot(t, api.ErrTooLarge, slices.Repeat([]block{some(0)}, 64), yes(), "64 blocks")
	joinsNot(t, api.ErrTooLarge, slices.Repeat([]block{all(0)}, 100000), x(0), "100000 blocks")
	f := joined(t, slices.Repeat([]block{some(0)}, 63), yes())
	equal(t, logic.Depth(f), mostDepth, "63 blocks")
}

// P20.3: what is made apart is alike, and apart; its bound variables rise in their row, and are numbers from next on, less than the one that is told.
func TestP20_3Alike(t *testing.T) {
	chance(203, 20000, 1000, func(r *rand.Rand, f formula) {
		next := pick(r, []int{0, 1, 2, 5, 6, 7, 1000, mostVars - 2000})
		g, after := made(t, f, next)
		equal(t, logic.Alike(f, g), true, "alike: ", brief{f}, ", ", brief{g})
		equal(t, apart.Is(g), true, "apart: ", brief{g})
		last := next - 1
		for _, v := range modelBound(g) {
			equal(t, v > last, true, "bound variables rise: ", brief{g})
			last = v
		}
		equal(t, after, last+1, "the number behind: ", brief{g})
		tells(t, logic.Free(g), logic.Free(f), "what is free: ", brief{g})
		equal(t, logic.Size(g) == logic.Size(f) && logic.Depth(g) == logic.Depth(f), true, "as large, and as deep: ", brief{g})
	})
}

// P20.4: what is left is plain; blocks go to and fro, and have as many variables as the quantifiers.
func TestP20_4Ahead(t *testing.T) {
	chance(204, 20000, 1000, func(r *rand.Rand, f formula) {
		l, g, _ := parted(t, f, r.Intn(9))
		equal(t, logic.Plain(g), true, "plain: ", brief{g})
		many := 0
		for k, b := range l {
			equal(t, k > 0 && b.Forall == l[k-1].Forall, false, "to and fro: ", brief{l})
			equal(t, len(b.Vars) > 0, true, "a block has a variable: ", brief{l})
			many += len(b.Vars)
		}
		equal(t, many, len(modelBound(f)), "how many variables: ", brief{f}, ", ", brief{l})
		equal(t, apart.Is(joined(t, l, g)), true, "what is joined is apart: ", brief{f})
	})
}

// half is a quotient.
func half(n int) api.Rat {
	x, _ := rat.Make(whole.Of(n), whole.Of(2))
	return x
}

// P20.5: by whatever values, and domain, what was joined is true just if the formula is.
func TestP20_5Meaning(t *testing.T) {
	domains := [][]api.Rat{{rat.Int(0)}, {rat.Int(1)}, {rat.Int(0), rat.Int(1)}, {rat.Int(2), rat.Int(-1), rat.Int(0)}, {rat.Int(-3), rat.Int(3)}, {rat.Int(1), rat.Int(1), rat.Int(-2)}}
	count := map[bool]int{}
	chance(205, 6000, 6, func(r *rand.Rand, f formula) {
		next := r.Intn(9)
		g, _ := made(t, f, next)
		l, left, _ := parted(t, f, next)
		h := joined(t, l, left)
		for range 4 {
			domain := pick(r, domains)
			var values []api.Rat
			for range 9 {
				values = append(values, rat.Int(r.Intn(5)-2))
			}
			is, e := eval.Over(api.Whole, f, values, domain)
			for k, other := range []formula{g, h} {
				so, e2 := eval.Over(api.Whole, other, values, domain)
				equal(t, e2, e, "Over, ", k, ": ", brief{f})
				equal(t, so, is, "by ", values, ", and ", domain, ", ", k, ": ", brief{f}, ", ", brief{other})
			}
			if len(l) > 1 {
				count[is]++
			}
		}
	})
	equal(t, count[true] > 300 && count[false] > 300, true, "there are such, and such: ", count)
	// Over the quotients, too.
	f := and(exists(eq(-1, 0, 2), 0), not(forall(or(lt(0, 0, 1, 1, -1), x(0)), 0)))
	l, left, _ := parted(t, f, 0)
	for _, domain := range [][]api.Rat{{half(1), half(4)}, {half(1), half(2)}, {half(3)}, {half(-1), half(1)}} {
		for _, y := range []api.Rat{half(0), half(1), half(2), half(5)} {
			is, _ := eval.Over(api.Real, f, []api.Rat{y, y}, domain)
			so, e := eval.Over(api.Real, joined(t, l, left), []api.Rat{y, y}, domain)
			equal(t, e, api.OK, "Over")
			equal(t, so, is, "over the quotients, by ", y, ", and ", domain)
		}
	}
}

// P20.6: made apart anew, by the same number, it is the same; what was joined has the same ahead, and left, but for numbers.
func TestP20_6OnceMore(t *testing.T) {
	chance(206, 20000, 1000, func(r *rand.Rand, f formula) {
		next := r.Intn(9)
		g, after := made(t, f, next)
		h, behind := made(t, g, next)
		tells(t, h, g, "made apart anew, of ", brief{f})
		equal(t, behind, after, "the number behind, anew, of ", brief{f})
		other, _ := made(t, g, r.Intn(9))
		equal(t, logic.Alike(g, other), true, "made apart by another number, of ", brief{f})
		back, _ := made(t, other, next)
		tells(t, back, g, "made apart by another number, and back, of ", brief{f})
		l, left, after := parted(t, f, next)
		m, right, behind := parted(t, joined(t, l, left), next)
		tells(t, m, l, "what stands ahead, anew, of ", brief{f})
		tells(t, right, left, "what is left, anew, of ", brief{f})
		equal(t, behind, after, "Prenex, the number behind, anew, of ", brief{f})
		m, right, _ = parted(t, joined(t, l, left), r.Intn(9))
		kinds := func(l []block) (s []string) {
			for _, b := range l {
				s = append(s, fmt.Sprint(b.Forall, len(b.Vars)))
			}
			return s
		}
		tells(t, kinds(m), kinds(l), "what stands ahead, anew, by another number, of ", brief{f})
		equal(t, logic.Alike(joined(t, m, right), joined(t, l, left)), true, "what is left, anew, by another number, of ", brief{f})
	})
}

// wrongFormulas are formulas that may not be, for each reason.
func wrongFormulas() []formula {
	a, good := x(0), linear(0, 0, 1)
	l := []formula{
		{Op: 8}, {Op: 9, Kids: []formula{a}}, {Op: 255}, {Op: api.Not}, {Op: api.Not, Kids: []formula{a, a}}, {Op: api.Exists, Vars: []int{0}}, {Op: api.Forall, Vars: []int{0}, Kids: []formula{a, a}},
		exists(a), forall(a), exists(a, -1), forall(a, 3, mostVars), exists(a, 1, 1), forall(a, 5, 4, 5), exists(a, append(row(0, mostVars), 5)...),
		{Op: api.True, Kids: []formula{a}}, {Op: api.False, Vars: []int{0}}, {Op: api.True, Atom: a.Atom}, {Op: api.False, Atom: api.Atom{Kind: api.Eq}}, {Op: api.Exists, Vars: []int{0}, Kids: []formula{a}, Atom: a.Atom},
		{Op: api.Is, Atom: a.Atom, Kids: []formula{a}}, {Op: api.Is, Atom: a.Atom, Vars: []int{0}}, {Op: api.Not, Kids: []formula{a}, Vars: []int{0}}, {Op: api.And, Vars: []int{0}}, {Op: api.And, Atom: a.Atom}, {Op: api.Or, Atom: api.Atom{Mod: whole.Of(1)}, Kids: []formula{a}},
		denied(a, mostDepth), exists(denied(a, mostDepth-1), 0), and(each(mostNodes, x)...), exists(and(each(mostNodes-1, x)...), 0), noEnd(),
	}
	for _, b := range []api.Atom{
		{Kind: 4, Term: good}, {Kind: 255}, {Kind: api.Div, Term: good}, {Kind: api.Div, Term: good, Mod: whole.Of(-2)}, {Term: good, Mod: whole.Of(1)}, {Kind: api.Eq, Mod: whole.Of(2)},
		{Term: linear(0, -1, 1)}, {Term: linear(0, mostVars, 1)}, {Term: linear(0, 1, 1, 0, 1)}, {Term: linear(0, 1, 1, 1, 1)}, {Term: linear(0, 0, 0)},
		{Term: api.Term{Add: api.Int{Neg: true}}}, {Kind: api.Lt, Term: api.Term{Add: api.Int{Limbs: []uint32{5, 0}}}}, {Term: api.Term{Parts: []api.Part{{Coef: api.Int{Limbs: []uint32{0}}}}}}, {Kind: api.Div, Term: good, Mod: api.Int{Limbs: slices.Repeat([]uint32{1}, mostLong+1)}},
	} {
		l = append(l, leaf(b))
	}
	return l
}

// noEnd is a formula that has itself among its kids.
func noEnd() formula {
	f := and(yes(), no())
	f.Kids[0] = exists(yes(), 0)
	f.Kids[0].Kids[0] = formula{Op: api.And, Kids: f.Kids}
	return f
}

// around are formulas that have another one within them.
func around(f formula) []formula {
	return []formula{f, not(f), and(f), or(x(1), f), exists(f, 3), forall(and(exists(x(0), 0), f), 0), and(exists(not(f), 0, 1), no())}
}

// TestErrors holds each row of the table against the rows behind it.
func TestErrors(t *testing.T) {
	nexts := []int{math.MinInt, -mostVars, -1, 0, 1, lastVar - 1, lastVar, mostVars, mostVars + 1, math.MaxInt}
	for k, f := range wrongFormulas() {
		for _, g := range around(f) {
			for _, next := range nexts {
				refuses(t, api.ErrForm, g, next, "formula ", k, " that may not be, from ", next, " on")
			}
		}
	}
	plain := []formula{yes(), x(0), x(lastVar), and(), not(or(x(0), same(1, 2)))}
	bound := []formula{exists(x(0), 0), forall(yes(), 5), and(x(0), exists(x(0), 0)), not(or(x(lastVar), forall(exists(yes(), 1), 0))), exists(yes(), row(0, mostVars)...)}
	for _, f := range slices.Concat(plain, bound) {
		for _, next := range nexts[:3] {
			refuses(t, api.ErrArg, f, next, "below 0: ", next, ", of ", brief{f})
		}
	}
	for _, f := range plain {
		for _, next := range nexts[3:] {
			g, after := made(t, f, next)
			tells(t, g, f, "from ", next, " on")
			equal(t, after, next, "the number behind, from ", next, " on")
			l, g, after := parted(t, f, next)
			tells(t, g, f, "what is left, from ", next, " on")
			equal(t, after, next, "Prenex, the number behind, from ", next, " on")
			equal(t, len(l), 0, "no blocks, from ", next, " on")
		}
	}
	for _, f := range bound {
		for _, next := range nexts[7:] {
			refuses(t, api.ErrTooLarge, f, next, "from ", next, " on, of ", brief{f})
		}
	}
	g, after := made(t, exists(x(0), 0), lastVar)
	tells(t, g, exists(x(lastVar), lastVar), "the last one")
	equal(t, after, mostVars, "behind the last one")
	refuses(t, api.ErrTooLarge, exists(exists(x(0), 0), 0), lastVar, "one more than the last one")
	refuses(t, api.ErrTooLarge, and(exists(x(0), 0), exists(x(0), 0)), lastVar, "one more than the last one, beside it")
	refuses(t, api.ErrTooLarge, exists(x(0), 0, 1), lastVar, "one more than the last one, in one quantifier")
}

// TestErrTooLarge: just as many new variables as there are, and one more, also as free ones are passed over.
func TestErrTooLarge(t *testing.T) {
	everyone := row(0, mostVars)
	for k, c := range []struct {
		f, more formula
		next    int
	}{
		{exists(yes(), everyone...), and(exists(yes(), everyone...), exists(yes(), 0)), 0},
		{exists(x(lastVar), turned(everyone)...), exists(forall(x(0), 7), everyone...), 0},
		{and(x(5), exists(yes(), everyone[1:]...)), and(x(5), exists(yes(), everyone...)), 0},
		{and(x(5), exists(x(6), everyone[6:]...)), and(x(5), exists(x(6), everyone[5:]...)), 5},
		{and(x(5), exists(x(7), everyone[6:]...)), and(x(5), exists(x(7), everyone[5:]...)), 6},
		{and(same(0, lastVar), forall(yes(), everyone[2:]...)), and(same(0, lastVar), forall(yes(), everyone[1:]...)), 0},
		{and(exists(yes(), everyone[:mostVars/2]...), forall(yes(), everyone[:mostVars/2]...)), and(exists(yes(), everyone[:mostVars/2]...), forall(yes(), everyone[:mostVars/2+1]...)), 0},
		{exists(yes(), everyone[:mostVars-1000]...), exists(yes(), everyone[:mostVars-999]...), 1000},
	} {
		g, after := made(t, c.f, c.next)
		l := modelBound(g)
		equal(t, len(l), len(modelBound(c.f)), "how many, case ", k)
		equal(t, slices.IsSorted(l) && l[0] >= c.next && l[len(l)-1] == after-1, true, "they rise, case ", k)
		equal(t, apart.Is(g), true, "Is, case ", k)
		refuses(t, api.ErrTooLarge, c.more, c.next, "one more, case ", k)
		refuses(t, api.ErrTooLarge, c.f, c.next+1+k/3*6, "as many, from a later one on, case ", k)
	}
	// Many times as many are refused as well.
	refuses(t, api.ErrTooLarge, and(slices.Repeat([]formula{exists(yes(), everyone...)}, 9)...), 0, "nine times as many")
	equal(t, apart.Is(and(slices.Repeat([]formula{exists(yes(), everyone...)}, 9)...)), false, "Is of nine times as many")
}

// TestMostNodes: as many nodes as may be, and as deep as may be, with blocks; one more may not be.
func TestMostNodes(t *testing.T) {
	// Of each three nodes one is a quantifier.
	third := (mostNodes - 1) / 3
	f := and(each(third, func(k int) formula {
		if k%4 < 2 {
			return exists(not(x(0)), 0)
		}
		return not(exists(x(0), 0))
	})...)
	equal(t, logic.Size(f), mostNodes, "how large it is")
	goesByModel(t, f, 0)
	goesByModel(t, f, mostVars-third)
	refuses(t, api.ErrTooLarge, f, mostVars-third+1, "as large as may be, one variable too many")
	l, g, after := parted(t, f, 7)
	equal(t, after, 7+third, "the number behind")
	equal(t, len(l), 1+third/2, "how many blocks")
	equal(t, logic.Size(g), mostNodes-third, "how large what is left is")
	joinsNot(t, api.ErrTooLarge, l, g, "it would be too deep")
	refuses(t, api.ErrForm, not(f), 0, "one node more")
	equal(t, apart.Is(not(f)), false, "Is of one node more")
	// Quantifiers all the way down, of one kind, and by turns.
	for k, c := range []struct {
		step   func(k int, f formula) formula
		blocks int
	}{
		{func(k int, f formula) formula { return exists(f, k, k+1) }, 1}, {func(k int, f formula) formula { return forall(f, 0) }, 1}, {func(k int, f formula) formula {
			return formula{Op: api.Exists + uint8(k%2), Vars: []int{0}, Kids: []formula{f}}
		}, mostDepth - 1},
	} {
		f := same(0, 1)
		for n := range mostDepth - 1 {
			f = c.step(n, f)
		}
		equal(t, logic.Depth(f), mostDepth, "how deep it is, case ", k)
		goesByModel(t, f, 0)
		goesByModel(t, f, 77)
		l, g, _ := parted(t, f, 2)
		equal(t, len(l), c.blocks, "how many blocks, case ", k)
		h := joined(t, l, g)
		equal(t, logic.Depth(h), 1+c.blocks, "how deep what is joined is, case ", k)
		refuses(t, api.ErrForm, exists(f, 0), 0, "one deeper, case ", k)
	}
	deep := denied(exists(x(0), 0), mostDepth-2)
	goesByModel(t, deep, 3)
	l, g, _ = parted(t, deep, 3)
	tells(t, l, []block{some(3)}, "what stands ahead of many Nots")
	tells(t, g, denied(x(3), mostDepth-2), "what is left of many Nots")
	tells(t, joined(t, l, g), exists(denied(x(3), mostDepth-2), 3), "many Nots, joined")
}

// TestManyVars: many variables, in a row that does not rise, most of which stand nowhere, around many quantifiers.
func TestManyVars(t *testing.T) {
	many := turned(row(0, mostVars/2))
	inner := each(1300, func(k int) formula { return exists(eq(0, k, 1, k+1, 2), k+1) })
	g, after := made(t, exists(and(append(inner, long(row(0, mostVars/2)))...), many...), 1)
	equal(t, after, 1+mostVars/2+1300, "the number behind")
	// Variable k becomes the one so far from the last one of the outer ones.
	last := mostVars / 2
	for k, f := range g.Kids[0].Kids[:1300] {
		tells(t, f, exists(eq(0, last-k, 1, last+1+k, 2), last+1+k), "within, ", k)
	}
	equal(t, logic.Same(g.Kids[0].Kids[1300], long(row(1, last+1))), true, "an atom of all of them")
	f := yes()
	for k := range 30 {
		f = exists(or(f, x(k)), turned(row(k, k+5000))...)
	}
	goesByModel(t, f, 123)
	equal(t, apart.Is(f), false, "Is of the same ones, within each other")
}

// lists are all lists of a formula, each to its room's end.
type lists struct {
	limbs  [][]uint32
	parts  [][]api.Part
	vars   [][]int
	kids   [][]formula
	blocks [][]block
}

// add has a formula's lists, too.
func (l *lists) add(f *formula) {
	a := &f.Atom
	for k := range a.Term.Parts {
		n := a.Term.Parts[k].Coef.Limbs
		l.limbs = append(l.limbs, n[:cap(n)])
	}
	l.limbs = append(l.limbs, a.Term.Add.Limbs[:cap(a.Term.Add.Limbs)], a.Mod.Limbs[:cap(a.Mod.Limbs)])
	l.parts = append(l.parts, a.Term.Parts[:cap(a.Term.Parts)])
	l.vars = append(l.vars, f.Vars[:cap(f.Vars)])
	l.kids = append(l.kids, f.Kids[:cap(f.Kids)])
	for k := range f.Kids {
		l.add(&f.Kids[k])
	}
}

// addBlocks has those of blocks, too.
func (l *lists) addBlocks(m []block) {
	l.blocks = append(l.blocks, m[:cap(m)])
	for _, b := range m {
		l.vars = append(l.vars, b.Vars[:cap(b.Vars)])
	}
}

// alone tells whether no two lists share memory. It writes all over them.
func (l *lists) alone() bool {
	is := alone(l.limbs, func(x *uint32, k int) { *x = uint32(k) }, func(x uint32, k int) bool { return x == uint32(k) })
	is = alone(l.vars, func(x *int, k int) { *x = k }, func(x int, k int) bool { return x == k }) && is
	is = alone(l.parts, func(x *api.Part, k int) { x.Var = k }, func(x api.Part, k int) bool { return x.Var == k }) && is
	is = alone(l.kids, func(x *formula, k int) { x.Vars = []int{k} }, func(x formula, k int) bool { return x.Vars[0] == k }) && is
	return alone(l.blocks, func(x *block, k int) { x.Vars = []int{k} }, func(x block, k int) bool { return x.Vars[0] == k }) && is
}

// alone tells whether lists share nothing: each place of them holds what was written there, when all are written.
func alone[T any](l [][]T, write func(x *T, k int), holds func(x T, k int) bool) bool {
	count := 0
	for _, m := range l {
		for k := range m {
			write(&m[k], count)
			count++
		}
	}
	count = 0
	for _, m := range l {
		for k := range m {
			if !holds(m[k], count) {
				return false
			}
			count++
		}
	}
	return true
}

// spare is a formula whose lists have something behind their end, and looks at whether it is as it was.
func spare(f formula, looks *[]func() bool) formula {
	g := formula{Op: f.Op, Atom: f.Atom, Vars: spareList(f.Vars, 9, looks)}
	g.Atom.Mod.Limbs = spareList(f.Atom.Mod.Limbs, 9, looks)
	g.Atom.Term.Add.Limbs = spareList(f.Atom.Term.Add.Limbs, 9, looks)
	l := slices.Clone(f.Atom.Term.Parts)
	for k, p := range l {
		l[k].Coef.Limbs = spareList(p.Coef.Limbs, 9, looks)
	}
	g.Atom.Term.Parts = spareList(l, api.Part{Var: 9}, looks)
	var kids []formula
	for _, kid := range f.Kids {
		kids = append(kids, spare(kid, looks))
	}
	g.Kids = spareList(kids, formula{Op: 9}, looks)
	return g
}

// spareBlocks are blocks likewise.
func spareBlocks(l []block, looks *[]func() bool) []block {
	l = slices.Clone(l)
	for k, b := range l {
		l[k].Vars = spareList(b.Vars, 9, looks)
	}
	return spareList(l, block{}, looks)
}

// spareList is a list likewise, held against itself by its text.
func spareList[T any](l []T, behind T, looks *[]func() bool) []T {
	long := append(slices.Clone(l), behind, behind)
	kept := fmt.Sprint(long)
	*looks = append(*looks, func() bool { return fmt.Sprint(long) == kept })
	return long[:len(l)]
}

// staysThroughout complains unless what is handed in stays, and what is told is told again, and shares no memory.
func staysThroughout(t *testing.T, f formula, next int) {
	t.Helper()
	was := f
	var looks []func() bool
	f = spare(f, &looks)
	is := apart.Is(f)
	g, after, e := apart.Apart(f, next)
	l, left, behind, e2 := apart.Prenex(f, next)
	equal(t, e, e2, "both refuse, or none does, of ", brief{was})
	texts := []string{spell(g), spell(l), spell(left)}
	var of, ofPrenex lists
	of.add(&g)
	ofPrenex.add(&left)
	ofPrenex.addBlocks(l)
	equal(t, of.alone() && ofPrenex.alone(), true, "no memory is shared, of ", brief{was})
	g, again, e3 := apart.Apart(f, next)
	l, left, againBehind, e4 := apart.Prenex(f, next)
	equal(t, e3 == e && e4 == e && again == after && againBehind == behind, true, "told again, of ", brief{was})
	tells(t, []string{spell(g), spell(l), spell(left)}, texts, "told again, behind what was written, of ", brief{was})
	equal(t, apart.Is(f), is, "Is, asked again, of ", brief{was})
	if e == api.OK {
		l = spareBlocks(l, &looks)
		left = spare(left, &looks)
		h, _ := apart.Join(l, left)
		text := spell(h)
		var of lists
		of.add(&h)
		equal(t, of.alone(), true, "no memory is shared by Join, of ", brief{was})
		h, _ = apart.Join(l, left)
		tells(t, spell(h), text, "Join, told again, of ", brief{was})
		apart.Join(append(slices.Clone(l), block{}), left)
		apart.Join(slices.Repeat([]block{{Vars: f.Vars}}, 70), f)
	}
	for k, look := range looks {
		if !look() {
			t.Fatal("something that was handed in has changed:", k, brief{was})
		}
	}
}

// R1: what is handed in stays, also behind its end, with an error and without; what is told shares no memory with it, nor within itself; it is told again.
func TestR1Stays(t *testing.T) {
	chance(207, 3000, 1000, func(r *rand.Rand, f formula) {
		staysThroughout(t, f, pick(r, []int{-1, 0, 1, 5, 900, lastVar - 1, mostVars}))
	})
	// One formula, and one list, in many places, are many.
	vars := []int{3, 1, 2}
	twice := exists(and(same(0, 1), forall(div(3, 2, 1, 5, 2, 7), vars...)), vars...)
	for _, f := range []formula{or(twice, twice, not(twice), and(twice, twice)), exists(exists(exists(twice, vars...), vars...), vars...), and(twice, exists(x(0)))} {
		staysThroughout(t, f, 0)
		staysThroughout(t, f, lastVar-2)
	}
	b := some(vars...)
	h := joined(t, []block{b, b, all(vars...)}, twice)
	var of lists
	of.add(&h)
	equal(t, of.alone(), true, "no memory is shared by Join of one list in many places")
	tells(t, vars, []int{3, 1, 2}, "the list in many places")
	for _, f := range wrongFormulas() {
		// One of the Ands has no end, so it has no text.
		if f.Op != api.And && len(f.Vars) < 100 {
			staysThroughout(t, f, 0)
		}
	}
}

// R1: formulas of whatever is in them, and whatever numbers: each call ends, and tells what it promises, or an error alone.
func TestR1Wild(t *testing.T) {
	r := rand.New(rand.NewSource(208))
	atoms := []formula{x(0), same(0, 1), div(2, 0, 1, 1), leaf(api.Atom{}), leaf(api.Atom{Kind: 9}), le(0, 0, 0), eq(1, 5, 1), lt(0, lastVar, 1)}
	var wild func(deep int) formula
	wild = func(deep int) formula {
		f := formula{Op: uint8(r.Intn(8))}
		if r.Intn(40) == 0 {
			f.Op = uint8(r.Intn(256))
		}
		if f.Op == api.Is || r.Intn(80) == 0 {
			f.Atom = pick(r, atoms[:max(3, r.Intn(60)%len(atoms))]).Atom
		}
		if f.Op >= api.Exists && r.Intn(30) > 0 || r.Intn(80) == 0 {
			f.Vars = pick(r, [][]int{{0}, {1, 0}, {2}, {3, 5, 1}, {lastVar}})
		}
		if f.Op >= api.Not && deep > 1 {
			for range 1 + r.Intn(8)/7 {
				f.Kids = append(f.Kids, wild(deep-1))
			}
		}
		return f
	}
	count := map[api.Errno]int{}
	for range 40000 {
		f := wild(1 + r.Intn(5))
		next := pick(r, []int{math.MinInt, -1, 0, 1, 2, 5, lastVar - 2, lastVar, mostVars, math.MaxInt})
		bound := len(modelBound(f)) > 0
		_, _, e := apart.Apart(f, next)
		count[e]++
		switch {
		case !logic.May(f):
			refuses(t, api.ErrForm, f, next, "wild: ", brief{f})
			equal(t, apart.Is(f), false, "wild: Is of ", brief{f})
		case next < 0:
			refuses(t, api.ErrArg, f, next, "wild: ", brief{f})
		case bound && next >= mostVars:
			refuses(t, api.ErrTooLarge, f, next, "wild: ", brief{f})
		case e == api.OK:
			goesByModel(t, f, next)
		default:
			refuses(t, api.ErrTooLarge, f, next, "wild: ", brief{f})
			l, _ := modelNumbers(f, next)
			equal(t, l[len(l)-1] > lastVar, true, "wild: refused without need: from ", next, " on, ", brief{f})
		}
		apart.Join([]block{{r.Intn(2) == 0, f.Vars}, some(r.Intn(9) - 2)}, f)
	}
	for _, e := range []api.Errno{api.OK, api.ErrForm, api.ErrArg, api.ErrTooLarge} {
		equal(t, count[e] > 1000, true, "wild: there are enough of error ", e, ": ", count[e])
	}
}
