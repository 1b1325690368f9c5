package show_test

import (
	"fmt"
	"maps"
	"math"
	"math/big"
	"math/rand"
	"slices"
	"strconv"
	"strings"
	"testing"

	"alidade/api"
	"alidade/budget"
	"alidade/lex"
	"alidade/logic"
	"alidade/names"
	"alidade/sexp"
	"alidade/show"
	"alidade/whole"
)

const (
	mostNodes    = 1 << 12
	mostDepth    = 64
	mostVars     = 1 << 20
	lastVar      = mostVars - 1
	mostLong     = 1 << 16
	mostSource   = 1 << 16
	mostDeclared = 1 << 12
	full         = math.MaxUint32
)

// formula is written often.
type formula = api.Formula

// linear is the term of a number, and of variables, each with its Coef behind it; they have to rise.
func linear(add int, l ...int) api.Term {
	t := api.Term{Add: whole.Of(add)}
	for ; len(l) > 0; l = l[2:] {
		t.Parts = append(t.Parts, api.Part{Var: l[0], Coef: whole.Of(l[1])})
	}
	return t
}

// leaf is an atom as a formula, made by hand.
func leaf(a api.Atom) formula { return formula{Op: api.Is, Atom: a} }

// le, lt, eq, div are atoms of linear terms, as formulas.
func le(add int, l ...int) formula { return leaf(api.Atom{Kind: api.Le, Term: linear(add, l...)}) }
func lt(add int, l ...int) formula { return leaf(api.Atom{Kind: api.Lt, Term: linear(add, l...)}) }
func eq(add int, l ...int) formula { return leaf(api.Atom{Kind: api.Eq, Term: linear(add, l...)}) }
func div(mod, add int, l ...int) formula {
	return leaf(api.Atom{Kind: api.Div, Term: linear(add, l...), Mod: whole.Of(mod)})
}

// zero says of a variable that it is 0.
func zero(v int) formula { return eq(0, v, 1) }

// These are made by hand, of whatever stands within.
func yes() formula                       { return formula{Op: api.True} }
func no() formula                        { return formula{Op: api.False} }
func not(f formula) formula              { return formula{Op: api.Not, Kids: []formula{f}} }
func and(l ...formula) formula           { return formula{Op: api.And, Kids: l} }
func or(l ...formula) formula            { return formula{Op: api.Or, Kids: l} }
func exists(f formula, l ...int) formula { return bind(api.Exists, l, f) }
func forall(f formula, l ...int) formula { return bind(api.Forall, l, f) }
func bind(op uint8, l []int, f formula) formula {
	return formula{Op: op, Vars: l, Kids: []formula{f}}
}

// denied is a formula within so many Nots.
func denied(f formula, times int) formula {
	for range times {
		f = not(f)
	}
	return f
}

// spell is a formula whose text is made only when it is told.
type spell formula

// String tells all that it has, or how it begins and ends.
func (f spell) String() string { return brief(fmt.Sprint(formula(f))) }

// brief tells a text, or how it begins and ends.
func brief(s string) string {
	if len(s) > 400 {
		return fmt.Sprint(s[:200], " .. ", s[len(s)-200:], ", ", len(s), " bytes")
	}
	return s
}

// equal complains unless something is what is wanted.
func equal[T comparable](t *testing.T, got, want T, what ...any) {
	t.Helper()
	if got != want {
		t.Errorf("%s: got %s, want %s", fmt.Sprint(what...), brief(fmt.Sprint(got)), brief(fmt.Sprint(want)))
	}
}

// logics are both.
func logics() []uint8 { return []uint8{api.Real, api.Whole} }

// declared is a table in which names are declared: their variables are 0, 1, and so on.
func declared(l ...string) *names.Table {
	tab := names.New()
	for _, name := range l {
		if _, e := tab.Declare(name); e != api.OK {
			panic("not declared: " + name)
		}
	}
	return tab
}

// opened is a table in which a scope is opened, too.
func opened(tab *names.Table, l ...string) *names.Table {
	if _, e := tab.Open(l); e != api.OK {
		panic("not opened")
	}
	return tab
}

// text is what Formula tells, where that is to be no error.
func text(t *testing.T, in uint8, f formula, tab *names.Table) string {
	t.Helper()
	s, e := show.Formula(in, f, tab)
	if e != api.OK {
		t.Error("refused:", e, "of", spell(f))
	}
	return s
}

// shows complains unless Formula tells a text.
func shows(t *testing.T, in uint8, f formula, tab *names.Table, want string) {
	t.Helper()
	equal(t, text(t, in, f, tab), want, "logic ", in, ", of ", spell(f))
}

// termText is what Term tells, where that is to be no error.
func termText(t *testing.T, of api.Term, tab *names.Table) string {
	t.Helper()
	s, e := show.Term(of, tab)
	if e != api.OK {
		t.Error("refused:", e)
	}
	return s
}

// refuses complains unless Formula tells an error, and nothing beside it.
func refuses(t *testing.T, want api.Errno, in uint8, f formula, tab *names.Table, what ...any) {
	t.Helper()
	s, e := show.Formula(in, f, tab)
	equal(t, e, want, append([]any{"Formula: "}, what...)...)
	equal(t, s, "", append([]any{"Formula, beside the error: "}, what...)...)
}

// refusesTerm likewise.
func refusesTerm(t *testing.T, want api.Errno, of api.Term, tab *names.Table, what ...any) {
	t.Helper()
	s, e := show.Term(of, tab)
	equal(t, e, want, append([]any{"Term: "}, what...)...)
	equal(t, s, "", append([]any{"Term, beside the error: "}, what...)...)
}

// A model goes by the words: of each bound variable the names are tried from b0 on, and of each term all that is bound is gone through.

// number is a whole number as math/big has it.
func number(x api.Int) *big.Int {
	v := new(big.Int)
	for _, w := range slices.Backward(x.Limbs) {
		v.Or(v.Lsh(v, 32), new(big.Int).SetUint64(uint64(w)))
	}
	if x.Neg {
		v.Neg(v)
	}
	return v
}

// modelNumber is a number's text.
func modelNumber(x api.Int) string {
	n := number(x)
	if n.Sign() < 0 {
		return "(- " + n.Neg(n).String() + ")"
	}
	return n.String()
}

// bound is a variable that a quantifier binds, by its name.
type bound struct {
	v    int
	name string
}

// modelTerm is a term's text, by the names of free variables, and by what is bound.
func modelTerm(t api.Term, free map[int]string, row []bound) string {
	coefs := map[int]api.Int{}
	for _, p := range t.Parts {
		coefs[p.Var] = p.Coef
	}
	var pieces []string
	put := func(coef api.Int, name string) {
		if number(coef).Cmp(big.NewInt(1)) != 0 {
			name = "(* " + modelNumber(coef) + " " + name + ")"
		}
		pieces = append(pieces, name)
	}
	innermost := map[int]int{}
	for k, b := range row {
		innermost[b.v] = k
	}
	for _, v := range slices.Sorted(maps.Keys(coefs)) {
		if _, is := innermost[v]; !is {
			put(coefs[v], free[v])
		}
	}
	for k, b := range row {
		if coef, is := coefs[b.v]; is && innermost[b.v] == k {
			put(coef, b.name)
		}
	}
	if add := modelNumber(t.Add); add != "0" || len(pieces) == 0 {
		pieces = append(pieces, add)
	}
	if len(pieces) == 1 {
		return pieces[0]
	}
	return "(+ " + strings.Join(pieces, " ") + ")"
}

// modelAtom is an atom's text.
func modelAtom(a api.Atom, free map[int]string, row []bound) string {
	t := modelTerm(a.Term, free, row)
	switch a.Kind {
	case api.Le:
		return "(<= " + t + " 0)"
	case api.Lt:
		return "(< " + t + " 0)"
	case api.Eq:
		return "(= " + t + " 0)"
	}
	return "((_ divisible " + modelNumber(a.Mod) + ") " + t + ")"
}

// modelWithin is the text of what stands within what is bound.
func modelWithin(in uint8, f formula, free map[int]string, row []bound) string {
	taken := map[string]bool{}
	for _, name := range free {
		taken[name] = true
	}
	for _, b := range row {
		taken[b.name] = true
	}
	var pairs []string
	for _, v := range f.Vars {
		k := 0
		for taken["b"+strconv.Itoa(k)] {
			k++
		}
		name := "b" + strconv.Itoa(k)
		taken[name] = true
		row = append(slices.Clone(row), bound{v, name})
		pairs = append(pairs, "("+name+" "+[]string{"Real", "Int"}[in]+")")
	}
	kids := ""
	for _, kid := range f.Kids {
		kids += " " + modelWithin(in, kid, free, row)
	}
	switch f.Op {
	case api.True:
		return "true"
	case api.False:
		return "false"
	case api.Is:
		return modelAtom(f.Atom, free, row)
	case api.Not:
		return "(not" + kids + ")"
	case api.And:
		return "(and" + kids + ")"
	case api.Or:
		return "(or" + kids + ")"
	case api.Exists:
		return "(exists (" + strings.Join(pairs, " ") + ")" + kids + ")"
	}
	return "(forall (" + strings.Join(pairs, " ") + ")" + kids + ")"
}

// modelFree are the variables of an atom, and those of all kids without a quantifier's Vars.
func modelFree(f formula) map[int]int {
	free := map[int]int{}
	for _, p := range f.Atom.Term.Parts {
		free[p.Var]++
	}
	for _, kid := range f.Kids {
		maps.Copy(free, modelFree(kid))
	}
	for _, v := range f.Vars {
		delete(free, v)
	}
	return free
}

// model is a formula's text, by the names of all variables.
func model(in uint8, f formula, called []string) string {
	free := map[int]string{}
	for v := range modelFree(f) {
		free[v] = called[v]
	}
	return modelWithin(in, f, free, nil)
}

// nameless tells a formula as a text, in which bound variables stand by where they are bound.
func nameless(f formula, depth int, called map[int]string) string {
	inner := map[int]string{}
	maps.Copy(inner, called)
	for k, v := range f.Vars {
		inner[v] = fmt.Sprint("bound ", k, " at ", depth)
	}
	var parts, kids []string
	for _, p := range f.Atom.Term.Parts {
		name := inner[p.Var]
		if name == "" {
			name = fmt.Sprint("free ", p.Var)
		}
		parts = append(parts, fmt.Sprint(p.Coef, " times ", name))
	}
	slices.Sort(parts)
	for _, kid := range f.Kids {
		kids = append(kids, nameless(kid, depth+1, inner))
	}
	return fmt.Sprint(f.Op, f.Atom.Kind, f.Atom.Mod, f.Atom.Term.Add, len(f.Vars), parts, "(", strings.Join(kids, ", "), ")")
}

// pick is one of a list.
func pick[T any](r *rand.Rand, l []T) T { return l[r.Intn(len(l))] }

// madeNumber is a number, mostly a short one.
func madeNumber(r *rand.Rand) api.Int {
	if r.Intn(12) > 0 {
		return whole.Of(r.Intn(7) - 3)
	}
	x := api.Int{Neg: r.Intn(2) == 0}
	for range 1 + r.Intn(5) {
		x.Limbs = append(x.Limbs, pick(r, []uint32{0, 1, full, r.Uint32()}))
	}
	x.Limbs = append(x.Limbs, 1+uint32(r.Intn(9)))
	return x
}

// madeTerm is a term of a few variables.
func madeTerm(r *rand.Rand) api.Term {
	t := api.Term{Add: madeNumber(r)}
	for v := range 6 {
		coef := madeNumber(r)
		if r.Intn(3) == 0 {
			coef = whole.Of(1)
		}
		if len(coef.Limbs) > 0 && r.Intn(2) == 0 {
			t.Parts = append(t.Parts, api.Part{Var: v, Coef: coef})
		}
	}
	return t
}

// madeAtom is an atom of a few variables, that may be in a logic.
func madeAtom(r *rand.Rand, in uint8) api.Atom {
	a := api.Atom{Kind: uint8(r.Intn(3)), Term: madeTerm(r)}
	if in == api.Whole && r.Intn(3) == 0 {
		a.Kind, a.Mod = api.Div, whole.Add(whole.Abs(madeNumber(r)), whole.Of(1))
	}
	return a
}

// made is a formula of a few variables, free and bound, no deeper than that, of Ops below one.
func made(r *rand.Rand, in uint8, deep, ops int) formula {
	op := uint8(r.Intn(ops))
	if deep == 1 && op > api.Is || op < api.Is && r.Intn(2) == 0 {
		op = api.Is
	}
	f := formula{Op: op}
	kids := 1
	switch op {
	case api.True, api.False:
		kids = 0
	case api.Is:
		f.Atom, kids = madeAtom(r, in), 0
	case api.And, api.Or:
		kids = r.Intn(4)
	case api.Exists, api.Forall:
		f.Vars = r.Perm(7)[:1+r.Intn(3)]
	}
	for range kids {
		f.Kids = append(f.Kids, made(r, in, deep-1, ops))
	}
	return f
}

// plain, every are the ends of the Ops of which formulas are made.
const (
	plain = int(api.Exists)
	every = int(api.Forall) + 1
)

// madeNames are names of so many variables, no two the same, such as bound variables have among them.
func madeNames(r *rand.Rand, many int) []string {
	l := []string{"x", "y", "z", "b", "b0", "b1", "b2", "b3", "b4", "b5", "b6", "b7", "b00", "b01", "b10", "B0", "bb0", "a0", "c0", "=>=", "<>", "+1", "--", "not0", "b-1", "x" + strings.Repeat("9", 63)}
	r.Shuffle(len(l), func(i, k int) { l[i], l[k] = l[k], l[i] })
	return l[:many]
}

// some hands formulas of a logic, of a fixed seed, to a test, with names for all that is free in them.
func some(in uint8, seed int64, many int, test func(r *rand.Rand, f formula, called []string)) {
	r := rand.New(rand.NewSource(seed))
	for range many {
		test(r, made(r, in, 1+r.Intn(6), every), madeNames(r, 8))
	}
}

// TestExamples are those of the chapter.
func TestExamples(t *testing.T) {
	tab := declared("x", "y")
	for _, in := range logics() {
		shows(t, in, le(-3, 0, 2), tab, "(<= (+ (* 2 x) (- 3)) 0)")
		shows(t, in, and(), tab, "(and)")
	}
	shows(t, api.Real, exists(zero(1), 1), tab, "(exists ((b0 Real)) (= b0 0))")
	shows(t, api.Whole, div(3, 0, 0, 1), tab, "((_ divisible 3) x)")
	with := declared("x", "y", "b0")
	shows(t, api.Real, exists(and(zero(1), zero(2)), 1), with, "(exists ((b1 Real)) (and (= b1 0) (= b0 0)))")
	shows(t, api.Real, exists(zero(1), 1), with, "(exists ((b0 Real)) (= b0 0))")
	// Those of the document that are of texts.
	shows(t, api.Real, le(-3, 1, 1), tab, "(<= (+ y (- 3)) 0)")
	shows(t, api.Real, lt(0, 0, 1, 1, -1), declared("y", "z"), "(< (+ y (* (- 1) z)) 0)")
	shows(t, api.Whole, div(2, 0, 0, 1), tab, "((_ divisible 2) x)")
}

// P17.1: a number's text.
func TestP17_1Number(t *testing.T) {
	for n, want := range map[int]string{
		0: "0", 1: "1", -1: "(- 1)", 9: "9", 10: "10", -10: "(- 10)", 1 << 32: "4294967296", -1 << 32: "(- 4294967296)", -full: "(- 4294967295)",
		math.MaxInt: "9223372036854775807", math.MinInt: "(- 9223372036854775808)",
	} {
		equal(t, show.Number(whole.Of(n)), want, "Number of ", n)
	}
	equal(t, show.Number(api.Int{Limbs: []uint32{}}), "0", "Number of an empty list")
	r := rand.New(rand.NewSource(171))
	for range 3000 {
		x := madeNumber(r)
		equal(t, show.Number(x), modelNumber(x), "Number of ", x)
	}
	for _, many := range []int{mostLong / 16, mostLong} {
		x := api.Int{Limbs: slices.Repeat([]uint32{full}, many)}
		want := modelNumber(x)
		equal(t, show.Number(x), want, "Number of ", many, " limbs")
		x.Neg = true
		if many < mostLong {
			equal(t, show.Number(x), "(- "+want+")", "Number of ", many, " limbs below 0")
		}
	}
}

// wrongNumbers are such as may not be.
func wrongNumbers() []api.Int {
	return []api.Int{
		{Neg: true}, {Neg: true, Limbs: []uint32{}}, {Limbs: []uint32{0}}, {Neg: true, Limbs: []uint32{0}}, {Limbs: []uint32{7, 0}}, {Neg: true, Limbs: []uint32{7, 0}},
		{Limbs: slices.Repeat([]uint32{1}, mostLong+1)}, {Neg: true, Limbs: slices.Repeat([]uint32{1}, mostLong+1)}, {Limbs: make([]uint32, mostLong+5)},
	}
}

// P17.1: of a number that may not be the text is empty.
func TestP17_1NoNumber(t *testing.T) {
	for k, x := range wrongNumbers() {
		equal(t, show.Number(x), "", "Number ", k, " that may not be")
	}
}

// P17.1: a term's text.
func TestP17_1Term(t *testing.T) {
	tab := declared("x", "y", "z", "b0")
	for k, c := range []struct {
		of   api.Term
		want string
	}{
		{linear(0), "0"}, {api.Term{Parts: []api.Part{}, Add: api.Int{Limbs: []uint32{}}}, "0"}, {linear(5), "5"}, {linear(-5), "(- 5)"}, {linear(1), "1"}, {linear(-1), "(- 1)"},
		{linear(0, 0, 1), "x"}, {linear(0, 0, -1), "(* (- 1) x)"}, {linear(0, 0, 2), "(* 2 x)"}, {linear(0, 0, -2), "(* (- 2) x)"}, {linear(0, 3, 1), "b0"}, {linear(0, 3, 10), "(* 10 b0)"},
		{linear(1, 0, 1), "(+ x 1)"}, {linear(-1, 0, 1), "(+ x (- 1))"}, {linear(7, 0, -1), "(+ (* (- 1) x) 7)"}, {linear(-7, 1, 3), "(+ (* 3 y) (- 7))"},
		{linear(0, 0, 1, 1, 1), "(+ x y)"}, {linear(0, 0, 2, 1, 1), "(+ (* 2 x) y)"}, {linear(0, 0, 1, 2, -4), "(+ x (* (- 4) z))"},
		{linear(9, 0, 1, 1, 1, 2, 1, 3, 1), "(+ x y z b0 9)"}, {linear(-9, 0, -1, 1, 2, 2, -3, 3, 1), "(+ (* (- 1) x) (* 2 y) (* (- 3) z) b0 (- 9))"},
		{linear(0, 1, 1, 3, 1), "(+ y b0)"},
	} {
		equal(t, termText(t, c.of, tab), c.want, "case ", k)
		for _, in := range logics() {
			shows(t, in, leaf(api.Atom{Kind: api.Le, Term: c.of}), tab, "(<= "+c.want+" 0)")
			shows(t, in, leaf(api.Atom{Kind: api.Lt, Term: c.of}), tab, "(< "+c.want+" 0)")
			shows(t, in, leaf(api.Atom{Kind: api.Eq, Term: c.of}), tab, "(= "+c.want+" 0)")
		}
		for _, mod := range []int{1, 2, 10, math.MaxInt} {
			shows(t, api.Whole, leaf(api.Atom{Kind: api.Div, Term: c.of, Mod: whole.Of(mod)}), tab, fmt.Sprint("((_ divisible ", mod, ") ", c.want, ")"))
		}
	}
	// A name is that of its variable, in whatever row they were declared.
	equal(t, termText(t, linear(0, 0, 1, 1, 1, 2, 1), declared("z", "y", "x")), "(+ z y x)", "names that fall")
	equal(t, termText(t, linear(1, 0, 3), declared("<>")), "(+ (* 3 <>) 1)", "a name of signs")
}

// P17.1: terms of a fixed seed, held against the model.
func TestP17_1Terms(t *testing.T) {
	r := rand.New(rand.NewSource(172))
	for range 3000 {
		of, called := madeTerm(r), madeNames(r, 8)
		free := map[int]string{}
		for v, name := range called {
			free[v] = name
		}
		equal(t, termText(t, of, declared(called...)), modelTerm(of, free, nil), "Term of ", of)
	}
}

// P17.1: each Op, of kids of each number.
func TestP17_1Ops(t *testing.T) {
	tab := declared("x", "y")
	x, y := le(0, 0, 1), lt(1, 1, -1)
	const a, b = "(<= x 0)", "(< (+ (* (- 1) y) 1) 0)"
	for _, c := range []struct {
		f    formula
		want string
	}{
		{yes(), "true"}, {no(), "false"}, {formula{Kids: []formula{}, Vars: []int{}}, "true"}, {x, a}, {y, b},
		{not(yes()), "(not true)"}, {not(no()), "(not false)"}, {not(x), "(not " + a + ")"}, {denied(x, 3), "(not (not (not " + a + ")))"},
		{and(), "(and)"}, {or(), "(or)"}, {and([]formula{}...), "(and)"}, {and(x), "(and " + a + ")"}, {or(x), "(or " + a + ")"}, {and(yes()), "(and true)"}, {or(no()), "(or false)"},
		{and(x, y), "(and " + a + " " + b + ")"}, {or(y, x), "(or " + b + " " + a + ")"}, {and(x, x, x), "(and " + a + " " + a + " " + a + ")"},
		{and(and(), or(), and(or(x))), "(and (and) (or) (and (or " + a + ")))"}, {or(not(and(x, yes())), no()), "(or (not (and " + a + " true)) false)"},
	} {
		for k, in := range logics() {
			shows(t, in, c.f, tab, c.want)
			sort := []string{"Real", "Int"}[k]
			shows(t, in, exists(c.f, 7), tab, "(exists ((b0 "+sort+")) "+c.want+")")
			shows(t, in, forall(c.f, 7), tab, "(forall ((b0 "+sort+")) "+c.want+")")
			shows(t, in, forall(exists(c.f, lastVar, 5), 9, 2, 8), tab, "(forall ((b0 "+sort+") (b1 "+sort+") (b2 "+sort+")) (exists ((b3 "+sort+") (b4 "+sort+")) "+c.want+"))")
		}
	}
}

// P17.1, "Names": what is bound, and what is free, and in which row they stand.
func TestP17_1Names(t *testing.T) {
	tab := declared("x", "b0", "b2", "z", "b00")
	for _, c := range []struct {
		f    formula
		want string
	}{
		// The same variable is free at one place, and bound at another.
		{and(zero(0), exists(zero(0), 0)), "(and (= x 0) (exists ((b0 Int)) (= b0 0)))"},
		{and(exists(zero(0), 0), zero(0)), "(and (exists ((b0 Int)) (= b0 0)) (= x 0))"},
		{and(zero(1), exists(zero(1), 1)), "(and (= b0 0) (exists ((b1 Int)) (= b1 0)))"},
		// What is free further on is taken already, also what stands in no quantifier.
		{and(exists(zero(0), 0), zero(1)), "(and (exists ((b1 Int)) (= b1 0)) (= b0 0))"},
		{and(exists(exists(zero(0), 0), 3), zero(2), zero(1)), "(and (exists ((b1 Int)) (exists ((b3 Int)) (= b3 0))) (= b2 0) (= b0 0))"},
		{exists(and(zero(2), zero(0), zero(3), zero(5)), 0, 3, 5), "(exists ((b0 Int) (b1 Int) (b3 Int)) (and (= b2 0) (= b0 0) (= b1 0) (= b3 0)))"},
		// Names that are in the table, but not free in it.
		{exists(and(zero(0), zero(3)), 3), "(exists ((b0 Int)) (and (= x 0) (= b0 0)))"},
		{exists(zero(1), 1), "(exists ((b0 Int)) (= b0 0))"},
		{exists(and(zero(1), zero(2)), 1, 2), "(exists ((b0 Int) (b1 Int)) (and (= b0 0) (= b1 0)))"},
		{exists(and(zero(1), zero(2)), 2, 1), "(exists ((b0 Int) (b1 Int)) (and (= b1 0) (= b0 0)))"},
		// One that is free, but no name of a bound one.
		{exists(and(zero(4), zero(0)), 0), "(exists ((b0 Int)) (and (= b00 0) (= b0 0)))"},
		// Free ones rise, and stand ahead of what is bound, in the row in which that is bound.
		{exists(eq(0, 0, 1, 2, 1, 3, 1), 0), "(exists ((b0 Int)) (= (+ b2 z b0) 0))"},
		{exists(eq(5, 0, 1, 2, 1, 3, 1), 3, 0), "(exists ((b0 Int) (b1 Int)) (= (+ b2 b0 b1 5) 0))"},
		{exists(eq(5, 0, 1, 2, 1, 3, 1), 0, 3), "(exists ((b0 Int) (b1 Int)) (= (+ b2 b0 b1 5) 0))"},
		{exists(eq(5, 0, 2, 2, 3, 3, 4), 3, 0), "(exists ((b0 Int) (b1 Int)) (= (+ (* 3 b2) (* 4 b0) (* 2 b1) 5) 0))"},
		{exists(forall(eq(-5, 7, 2, 8, 3, 9, -4), 8), 9, 7), "(exists ((b0 Int) (b1 Int)) (forall ((b2 Int)) (= (+ (* (- 4) b0) (* 2 b1) (* 3 b2) (- 5)) 0)))"},
		// The same variable is bound twice: within, and beside.
		{exists(exists(zero(0), 0), 0), "(exists ((b0 Int)) (exists ((b1 Int)) (= b1 0)))"},
		{exists(and(zero(0), exists(zero(0), 0), zero(0)), 0), "(exists ((b0 Int)) (and (= b0 0) (exists ((b1 Int)) (= b1 0)) (= b0 0)))"},
		{and(exists(zero(0), 0), forall(zero(0), 0)), "(and (exists ((b0 Int)) (= b0 0)) (forall ((b0 Int)) (= b0 0)))"},
		{exists(exists(exists(eq(0, 6, 2, 7, 3), 6), 7), 6), "(exists ((b0 Int)) (exists ((b1 Int)) (exists ((b2 Int)) (= (+ (* 3 b1) (* 2 b2)) 0))))"},
		{exists(exists(eq(0, 6, 2, 7, 3), 7), 6), "(exists ((b0 Int)) (exists ((b1 Int)) (= (+ (* 2 b0) (* 3 b1)) 0)))"},
		{exists(exists(eq(0, 6, 2, 7, 3, 8, 4), 8, 6), 6, 7), "(exists ((b0 Int) (b1 Int)) (exists ((b2 Int) (b3 Int)) (= (+ (* 3 b1) (* 4 b2) (* 2 b3)) 0)))"},
		{exists(and(exists(zero(6), 6, 7), eq(0, 6, 1, 7, 2)), 7, 6), "(exists ((b0 Int) (b1 Int)) (and (exists ((b2 Int) (b3 Int)) (= b2 0)) (= (+ (* 2 b0) b1) 0)))"},
		// Behind a quantifier its names may be had again.
		{exists(and(forall(zero(8), 8, 9), exists(zero(6), 8)), 6), "(exists ((b0 Int)) (and (forall ((b1 Int) (b2 Int)) (= b1 0)) (exists ((b1 Int)) (= b0 0))))"},
		{and(exists(exists(zero(6), 7), 6), exists(zero(7), 7), zero(0)), "(and (exists ((b0 Int)) (exists ((b1 Int)) (= b0 0))) (exists ((b0 Int)) (= b0 0)) (= x 0))"},
	} {
		shows(t, api.Whole, c.f, tab, c.want)
		shows(t, api.Real, c.f, tab, strings.ReplaceAll(c.want, "Int", "Real"))
	}
}

// P17.1: names of scopes that are open, and names that such hide.
func TestP17_1Scopes(t *testing.T) {
	tab := opened(declared("x", "y", "b1"), "b0", "y")
	opened(tab, "y", "z")
	shows(t, api.Real, eq(0, 0, 1, 2, 1, 3, 1), tab, "(= (+ x b1 b0) 0)")
	shows(t, api.Real, and(zero(1), zero(4), zero(5), zero(6)), tab, "(and (= y 0) (= y 0) (= y 0) (= z 0))")
	shows(t, api.Real, exists(and(zero(3), zero(2)), 0), tab, "(exists ((b2 Real)) (and (= b0 0) (= b1 0)))")
	shows(t, api.Real, exists(and(zero(3), zero(2)), 3), tab, "(exists ((b0 Real)) (and (= b0 0) (= b1 0)))")
	equal(t, termText(t, linear(0, 1, 1, 4, 2, 5, 3), tab), "(+ y (* 2 y) (* 3 y))", "hidden names")
	// What is shut has no name any more.
	tab.Close()
	refuses(t, api.ErrName, api.Real, zero(5), tab, "a variable of a scope that is shut")
	refusesTerm(t, api.ErrName, linear(0, 6, 1), tab, "a variable of a scope that is shut")
	shows(t, api.Real, zero(4), tab, "(= y 0)")
	tab.Close()
	refuses(t, api.ErrName, api.Real, exists(zero(4), 1), tab, "a variable of a scope that is shut")
	shows(t, api.Real, exists(zero(4), 4), tab, "(exists ((b0 Real)) (= b0 0))")
	shows(t, api.Real, zero(1), tab, "(= y 0)")
}

// P17.1: all short formulas, and others of a fixed seed, held against the model.
func TestModel(t *testing.T) {
	for _, called := range [][]string{{"x", "y", "z", "u"}, {"b0", "y", "b1", "b2"}, {"b2", "b1", "b0", "b3"}, {"y", "b1", "x", "b0"}} {
		tab := declared(called...)
		for _, f := range small() {
			shows(t, api.Whole, f, tab, model(api.Whole, f, called))
		}
	}
	for _, in := range logics() {
		some(in, 173, 6000, func(r *rand.Rand, f formula, called []string) {
			// Some of the names are those of scopes.
			out, tab := r.Intn(9), names.New()
			tab = declared(called[:min(out, 8)]...)
			for out < 8 {
				many := 1 + r.Intn(8-out)
				opened(tab, called[out:out+many]...)
				out += many
			}
			shows(t, in, f, tab, model(in, f, called))
		})
	}
}

// small are short formulas of all kinds, such as are alike among them.
func small() []formula {
	atoms := []formula{zero(0), zero(1), eq(0, 0, 1, 1, 1), eq(0, 0, 1, 1, 2), eq(0, 0, 2, 1, 1), le(0, 0, 1, 1, 1), lt(0, 0, 1), le(0, 0, 1), div(2, 0, 0, 1), div(3, 0, 0, 1), div(3, 1, 0, 1), le(1, 0, 1), le(-1, 0, 1), le(1, 0, -1), le(0), eq(0), eq(1), eq(-1), eq(0, 0, 1, 1, 1, 2, 1), zero(2)}
	l := slices.Concat([]formula{yes(), no(), and(), or()}, atoms)
	for _, f := range atoms {
		l = append(l, not(f), and(f), or(f), and(f, zero(0)), or(zero(1), f), and(zero(1), f))
		for _, vars := range [][]int{{0}, {1}, {2}, {0, 1}, {1, 0}, {0, 2}, {3, 1}} {
			l = append(l, exists(f, vars...), forall(f, vars...), exists(and(f, exists(f, vars...)), 0))
			l = append(l, exists(exists(f, vars...), 1), exists(forall(f, vars...), 0, 2), and(f, exists(f, vars...)), and(exists(f, vars...), f))
		}
	}
	return l
}

// P17.2: short formulas have the same text just if they are alike.
func TestP17_2Short(t *testing.T) {
	l := small()
	for _, called := range [][]string{{"x", "y", "z", "u"}, {"b0", "b1", "b2", "b3"}} {
		tab := declared(called...)
		byText, byForm, first := map[string]string{}, map[string]string{}, map[string]formula{}
		var texts []string
		for _, f := range l {
			s, form := text(t, api.Whole, f, tab), nameless(f, 0, nil)
			if other, is := byText[s]; is && other != form {
				t.Error("not alike, but both are shown as", s, ":", other, "and", form)
			}
			if other, is := byForm[form]; is && other != s {
				t.Error("alike, but shown as", other, "and", s)
			}
			if g, is := first[s]; is && !logic.Alike(f, g) {
				t.Error("not Alike, but both are shown as", s)
			}
			byText[s], byForm[form], first[s] = form, s, f
			texts = append(texts, s)
		}
		if len(byText) == len(l) || len(byText) < 100 {
			t.Error("there are no formulas that are alike, or few others:", len(byText), "of", len(l))
		}
		for k := 0; k < len(l); k += 11 {
			for n, g := range l {
				equal(t, texts[k] == texts[n], logic.Alike(l[k], g), "the same text of ", spell(l[k]), " and ", spell(g))
			}
		}
	}
}

// at hands each node of a formula, which has memory of its own, to a change, till that says that it is done.
func at(f *formula, change func(g *formula) bool) bool {
	if change(f) {
		return true
	}
	for k := range f.Kids {
		if at(&f.Kids[k], change) {
			return true
		}
	}
	return false
}

// copied is a formula with memory of its own.
func copied(f formula) formula {
	f.Vars = slices.Clone(f.Vars)
	f.Atom.Term.Parts = slices.Clone(f.Atom.Term.Parts)
	f.Kids = slices.Clone(f.Kids)
	for k, kid := range f.Kids {
		f.Kids[k] = copied(kid)
	}
	return f
}

// changed is a formula in which one node is another one.
func changed(r *rand.Rand, in uint8, f formula) formula {
	g := copied(f)
	left := r.Intn(logic.Size(f))
	at(&g, func(n *formula) bool {
		left--
		if left >= 0 {
			return false
		}
		switch n.Op {
		case api.Is:
			n.Atom = changedAtom(r, in, n.Atom)
		case api.True, api.False, api.And, api.Or, api.Exists, api.Forall:
			if len(n.Vars) > 1 && r.Intn(2) == 0 {
				n.Vars[0], n.Vars[1] = n.Vars[1], n.Vars[0]
			} else if len(n.Kids) > 1 && r.Intn(2) == 0 {
				n.Kids[0], n.Kids[1] = n.Kids[1], n.Kids[0]
			} else {
				// Each Op of a kind stands beside the other one.
				n.Op = map[uint8]uint8{api.True: api.False, api.False: api.True, api.And: api.Or, api.Or: api.And, api.Exists: api.Forall, api.Forall: api.Exists}[n.Op]
			}
		case api.Not:
			n.Op = api.And
		}
		return true
	})
	return g
}

// changedAtom is an atom of which one thing is another one.
func changedAtom(r *rand.Rand, in uint8, a api.Atom) api.Atom {
	parts := a.Term.Parts
	switch r.Intn(4) {
	case 0:
		a.Term.Add = pick(r, []api.Int{whole.Neg(a.Term.Add), whole.Add(a.Term.Add, whole.Of(1))})
	case 1:
		if a.Kind == api.Div {
			a.Mod = whole.Add(a.Mod, whole.Of(1))
		} else {
			a.Kind = (a.Kind + 1) % 3
		}
	case 2:
		if len(parts) > 0 {
			p := &parts[r.Intn(len(parts))]
			p.Coef = pick(r, []api.Int{whole.Neg(p.Coef), whole.Mul(p.Coef, whole.Of(2))})
		}
	case 3:
		// Two Coefs change places, which is nothing if the variables are bound where each other is.
		if len(parts) > 1 {
			k := 1 + r.Intn(len(parts)-1)
			parts[k-1].Coef, parts[k].Coef = parts[k].Coef, parts[k-1].Coef
		}
	}
	return a
}

// renumbered is a formula with its bound variables by other numbers, in whatever row.
func renumbered(r *rand.Rand, f formula, now map[int]int) formula {
	now = maps.Clone(now)
	g := formula{Op: f.Op, Atom: f.Atom}
	for _, v := range f.Vars {
		n := 100 + r.Intn(900)
		for slices.Contains(g.Vars, n) || slices.Contains(slices.Collect(maps.Values(now)), n) {
			n = 100 + r.Intn(900)
		}
		g.Vars = append(g.Vars, n)
		now[v] = n
	}
	g.Atom.Term.Parts = nil
	for _, p := range f.Atom.Term.Parts {
		if n, is := now[p.Var]; is {
			p.Var = n
		}
		g.Atom.Term.Parts = append(g.Atom.Term.Parts, p)
	}
	slices.SortFunc(g.Atom.Term.Parts, func(a, b api.Part) int { return a.Var - b.Var })
	for _, kid := range f.Kids {
		g.Kids = append(g.Kids, renumbered(r, kid, now))
	}
	return g
}

// P17.2: formulas of a fixed seed, and such as differ from them at one place, or in numbers of bound variables alone.
func TestP17_2Unlike(t *testing.T) {
	differ := 0
	for _, in := range logics() {
		some(in, 174, 4000, func(r *rand.Rand, f formula, called []string) {
			tab := declared(called...)
			s := text(t, in, f, tab)
			g := changed(r, in, f)
			alike := logic.Alike(f, g)
			equal(t, text(t, in, g, tab) == s, alike, "the same text of ", spell(f), " and ", spell(g))
			if !alike {
				differ++
			}
			other := renumbered(r, f, map[int]int{})
			if !logic.Alike(f, other) {
				t.Fatal("not renumbered:", spell(f), "and", spell(other))
			}
			equal(t, text(t, in, other, tab), s, "the text of ", spell(f), " and ", spell(other))
		})
	}
	if differ < 4000 {
		t.Error("few are not alike:", differ)
	}
}

// readBack complains unless a text is one word, or one list, that is shown as it was.
func readBack(t *testing.T, s string) {
	t.Helper()
	m, _ := budget.New(budget.Widest())
	l, _, e := sexp.Read(s, m)
	if e != api.OK || len(l) != 1 {
		t.Errorf("%d nodes, %v, of %s", len(l), e, brief(s))
		return
	}
	equal(t, sexp.Show(l[0]), s, "read, and shown")
	isList := strings.HasPrefix(s, "(")
	equal(t, l[0].Kind == 0, isList, "a list: ", brief(s))
}

// P17.3: a text is one word, or one list.
func TestP17_3OneList(t *testing.T) {
	tab := declared("x", "b0", "z", "u")
	for _, f := range small() {
		readBack(t, text(t, api.Whole, f, tab))
	}
	for _, in := range logics() {
		some(in, 175, 2000, func(r *rand.Rand, f formula, called []string) {
			if s := text(t, in, f, declared(called...)); len(s) <= mostSource {
				readBack(t, s)
			}
			readBack(t, termText(t, madeTerm(r), declared(called...)))
			readBack(t, show.Number(madeNumber(r)))
		})
	}
	equal(t, lex.Kind(show.Number(whole.Of(0))), lex.Numeral, "the text of 0")
}

// P17.4: a Not's, And's, Or's text is its kids', where these have no quantifiers.
func TestP17_4Parts(t *testing.T) {
	r := rand.New(rand.NewSource(176))
	for range 3000 {
		in, tab := uint8(r.Intn(2)), declared(madeNames(r, 8)...)
		var kids []formula
		texts := ""
		for range r.Intn(4) {
			kid := made(r, in, 4, plain)
			kids = append(kids, kid)
			texts += " " + text(t, in, kid, tab)
		}
		shows(t, in, and(kids...), tab, "(and"+texts+")")
		shows(t, in, or(kids...), tab, "(or"+texts+")")
		if len(kids) == 1 {
			shows(t, in, not(kids[0]), tab, "(not"+texts+")")
		}
	}
}

// called is a text in which some words are others.
func called(t *testing.T, s string, from, to []string) string {
	words, _, e := lex.Words(s)
	if e != api.OK {
		t.Fatal("no words:", e)
	}
	for k, w := range words {
		if at := slices.Index(from, w.Text); at >= 0 {
			words[k].Text = to[at]
		}
	}
	return lex.Join(words)
}

// P17.5: free variables are called otherwise by another table; other names, and numbers of variables, change nothing.
func TestP17_5Names(t *testing.T) {
	for _, in := range logics() {
		some(in, 177, 2000, func(r *rand.Rand, f formula, _ []string) {
			from, to := []string{"x", "y", "z", "u", "v", "w"}, []string{"<>", "a-b", "B0", "b00", "q", "b01"}
			s := text(t, in, f, declared(from...))
			if len(s) > mostSource/2 {
				return
			}
			words, _, _ := lex.Words(called(t, s, from, to))
			again, _, _ := lex.Words(text(t, in, f, declared(to...)))
			equal(t, lex.Same(again, words), true, "free variables called otherwise in ", spell(f))
			// What is not free may be called whatever one likes.
			free := logic.Free(f)
			others := slices.Clone(from)
			for v, k := range r.Perm(len(others)) {
				if !slices.Contains(free, v) {
					others[v] = fmt.Sprint("b", k)
				}
			}
			shows(t, in, f, declared(others...), s)
			// One of those that are free alone is called otherwise.
			if len(free) > 0 {
				v := pick(r, free)
				one := slices.Clone(from)
				one[v] = "other"
				if got := text(t, in, f, declared(one...)); got == s || !strings.Contains(got, "other") {
					t.Error("called otherwise, but the text stays: ", brief(got))
				}
			}
			// The same, by greater numbers of all variables.
			moved, wide := shifted(f, 9), declared("c0", "c1", "c2", "b0", "b1", "b2", "b3", "b4", "b5")
			for _, name := range from {
				wide.Declare(name)
			}
			shows(t, in, moved, wide, s)
		})
	}
}

// shifted is a formula with all variables' numbers greater by so many.
func shifted(f formula, by int) formula {
	g := copied(f)
	at(&g, func(n *formula) bool {
		for k := range n.Vars {
			n.Vars[k] += by
		}
		for k := range n.Atom.Term.Parts {
			n.Atom.Term.Parts[k].Var += by
		}
		return false
	})
	return g
}

// noEnd is a formula that has itself among its kids.
func noEnd() formula {
	f := and(yes(), no())
	f.Kids[0] = not(yes())
	f.Kids[0].Kids[0] = formula{Op: api.And, Kids: f.Kids}
	return f
}

// twiceAsMuch is a formula of more nodes than there is memory for.
func twiceAsMuch() formula {
	f := le(0, 0, 1)
	for range 62 {
		f = or(f, f)
	}
	return f
}

// wrongTerms are such as may not be.
func wrongTerms() []api.Term {
	l := []api.Term{linear(0, -1, 1), linear(0, mostVars, 1), linear(0, math.MinInt, 1), linear(0, math.MaxInt, 1), linear(0, 0, 0), linear(1, 0, 1, 1, 0), linear(0, 1, 1, 0, 1), linear(0, 1, 1, 1, 1), linear(0, 0, 1, 2, 1, 1, 1)}
	for _, n := range wrongNumbers() {
		l = append(l, api.Term{Add: n}, api.Term{Parts: []api.Part{{Var: 0, Coef: n}}}, api.Term{Parts: []api.Part{{Var: 0, Coef: whole.Of(1)}, {Var: 1, Coef: n}}, Add: whole.Of(2)})
	}
	return l
}

// wrongFormulas are such as may not be.
func wrongFormulas() []formula {
	x := le(0, 0, 1)
	var l []formula
	for _, op := range []uint8{8, 9, 77, 128, 255} {
		l = append(l, formula{Op: op}, formula{Op: op, Kids: []formula{x}}, formula{Op: op, Vars: []int{0}, Kids: []formula{x}}, formula{Op: op, Atom: x.Atom})
	}
	l = append(l,
		formula{Op: api.True, Kids: []formula{x}}, formula{Op: api.False, Vars: []int{0}}, formula{Op: api.True, Atom: x.Atom}, formula{Op: api.False, Atom: api.Atom{Mod: whole.Of(2)}},
		formula{Op: api.Is, Atom: x.Atom, Kids: []formula{x}}, formula{Op: api.Is, Atom: x.Atom, Vars: []int{0}},
		formula{Op: api.Not}, formula{Op: api.Not, Kids: []formula{x, x}}, formula{Op: api.Not, Kids: []formula{x}, Vars: []int{0}}, formula{Op: api.Not, Kids: []formula{x}, Atom: x.Atom},
		formula{Op: api.And, Vars: []int{0}}, formula{Op: api.Or, Atom: x.Atom}, formula{Op: api.Exists, Vars: []int{0}}, formula{Op: api.Forall, Kids: []formula{x}},
		exists(x), forall(x, []int{}...), exists(x, -1), forall(x, mostVars), exists(x, 0, 0), forall(x, 1, 0, 1), exists(x, math.MinInt), forall(x, math.MaxInt),
		formula{Op: api.Exists, Vars: []int{0}, Kids: []formula{x, x}},
		leaf(api.Atom{Kind: 4}), leaf(api.Atom{Kind: 255}), leaf(api.Atom{Mod: whole.Of(1)}), leaf(api.Atom{Kind: api.Div}), div(0, 0, 0, 1), div(-3, 0, 0, 1),
		denied(x, mostDepth), and(slices.Repeat([]formula{x}, mostNodes)...), noEnd(), twiceAsMuch())
	for k, of := range wrongTerms() {
		l = append(l, leaf(api.Atom{Kind: uint8(k % 3), Term: of}), leaf(api.Atom{Kind: api.Div, Term: of, Mod: whole.Of(2)}))
	}
	return l
}

// wrong are formulas of each row of the table of errors behind that of the logic: those that may not be, that may not be in Real, that have no names; and one that is right.
func wrong() []formula {
	return []formula{yes(), {Op: 99}, div(2, 0, 0, 1), zero(7), and(formula{Op: 99}, div(2, 0), zero(7)), exists(div(3, 1, 7, 1), 0)}
}

// ErrNil: no table, whatever else is handed in.
func TestErrNil(t *testing.T) {
	for _, in := range []uint8{api.Real, api.Whole, 2, 3, 128, 255} {
		for k, f := range append(wrong(), wrongFormulas()...) {
			refuses(t, api.ErrNil, in, f, nil, "logic ", in, ", formula ", k)
		}
	}
	for k, of := range append(wrongTerms(), linear(0), linear(0, 7, 1)) {
		refusesTerm(t, api.ErrNil, of, nil, "term ", k)
	}
}

// ErrArg: no such logic, ahead of the rows behind.
func TestErrArg(t *testing.T) {
	tab := declared("x")
	for _, in := range []uint8{2, 3, 4, 7, 127, 128, 254, 255} {
		for k, f := range append(wrong(), wrongFormulas()...) {
			refuses(t, api.ErrArg, in, f, tab, "logic ", in, ", formula ", k)
		}
	}
}

// ErrForm: formulas, and terms, that may not be, ahead of ErrSort and ErrName.
func TestErrForm(t *testing.T) {
	tab := declared("x")
	for _, in := range logics() {
		for k, f := range wrongFormulas() {
			for n, g := range []formula{f, not(f), and(no(), f), or(yes(), f), exists(f, 0), forall(f, 7), and(div(2, 0, 0, 1), f), and(f, not(div(2, 0, 0, 1))), or(zero(7), f), and(f, exists(zero(8), 7)), or(and(not(exists(f, 3))), yes())} {
				refuses(t, api.ErrForm, in, g, tab, "logic ", in, ", formula ", k, ", within ", n)
			}
		}
	}
	for k, of := range wrongTerms() {
		refusesTerm(t, api.ErrForm, of, tab, "term ", k)
		refusesTerm(t, api.ErrForm, of, declared("x", "y", "z"), "term ", k)
		refusesTerm(t, api.ErrForm, of, names.New(), "term ", k, ", nothing is declared")
	}
}

// ErrSort: atoms that may not be in the logic, alone and deep within a formula, ahead of ErrName.
func TestErrSort(t *testing.T) {
	tab := declared("x")
	for k, d := range []formula{div(2, 0, 0, 1), div(1, 0), div(1, 0, 7, 1), div(7, 7, 0, 7, lastVar, -7)} {
		deep := denied(d, mostDepth-1)
		wide := and(append(slices.Repeat([]formula{no()}, mostNodes-2), d)...)
		for n, f := range []formula{d, not(d), and(d), or(d), and(no(), d), or(yes(), d), and(d, no()), or(d, yes()), and(or(yes(), not(and(no(), or(d)))), yes()), deep, wide, exists(d, 0), forall(d, 7), exists(d, 77), exists(and(no(), forall(d, 3)), 0), and(zero(7), d), or(d, zero(8))} {
			refuses(t, api.ErrSort, api.Real, f, tab, "atom ", k, ", within ", n)
			if _, e := show.Formula(api.Whole, f, tab); e != api.OK && e != api.ErrName {
				t.Error("over the whole numbers:", e)
			}
		}
	}
}

// ErrName: a free variable without a name, alone, among others, and one that is bound elsewhere.
func TestErrName(t *testing.T) {
	for _, in := range logics() {
		for _, tab := range []*names.Table{names.New(), {}, declared("x"), declared("x", "b0", "b1"), opened(declared("x"), "y", "z")} {
			for k, f := range []formula{
				zero(7), not(zero(3)), and(yes(), zero(7)), or(zero(lastVar), no()), le(0, 0, 1, 7, 1), lt(0, 7, 1, 8, 1), exists(zero(7), 0), forall(zero(7), 8), exists(eq(0, 3, 1, 7, 1), 3), forall(exists(eq(1, 3, 1, 7, 1), 3), 5),
				and(exists(zero(7), 7), zero(7)), and(zero(7), exists(zero(7), 7)), or(forall(and(zero(7), exists(zero(7), 7)), 7), exists(zero(7), 8)), denied(zero(7), mostDepth-1),
				and(append(slices.Repeat([]formula{yes()}, mostNodes-2), zero(7))...),
			} {
				refuses(t, api.ErrName, in, f, tab, "formula ", k)
			}
			for k, of := range []api.Term{linear(0, 7, 1), linear(1, 3, 2), linear(0, 0, 1, 7, 1), linear(5, lastVar, -1)} {
				refusesTerm(t, api.ErrName, of, tab, "term ", k)
			}
			// What is not free needs none.
			shows(t, in, exists(le(0, 7, 1), 7), tab, "(exists ((b0 "+[]string{"Real", "Int"}[in]+")) (<= b0 0))")
			shows(t, in, le(3), tab, "(<= 3 0)")
			equal(t, termText(t, linear(-4), tab), "(- 4)", "a term without variables")
		}
	}
	// A variable that a table gives out next has none yet.
	tab := declared("x", "y")
	refuses(t, api.ErrName, api.Real, zero(2), tab, "the next variable")
	refusesTerm(t, api.ErrName, linear(0, 2, 1), tab, "the next variable")
	shows(t, api.Real, zero(1), tab, "(= y 0)")
}

// TestMost shows formulas of as many nodes, and as deep, as may be.
func TestMost(t *testing.T) {
	tab := declared("x")
	shows(t, api.Real, denied(zero(0), mostDepth-1), tab, strings.Repeat("(not ", mostDepth-1)+"(= x 0)"+strings.Repeat(")", mostDepth-1))
	shows(t, api.Whole, or(slices.Repeat([]formula{zero(0)}, mostNodes-1)...), tab, "(or"+strings.Repeat(" (= x 0)", mostNodes-1)+")")
	// Quantifiers, one within the other, of one variable, and of a variable each, whose numbers fall.
	inner, each := zero(5), linear(0)
	for v := range 63 {
		each.Parts = append(each.Parts, api.Part{Var: v + 1, Coef: whole.Of(v + 1)})
	}
	all := leaf(api.Atom{Kind: api.Eq, Term: each})
	heads, pieces := "", ""
	for k := range 63 {
		inner, all = exists(inner, 5), exists(all, k+1)
		heads += fmt.Sprint("(exists ((b", k, " Int)) ")
		if k < 62 {
			pieces += fmt.Sprint(" (* ", 63-k, " b", k, ")")
		}
	}
	shows(t, api.Whole, inner, tab, heads+"(= b62 0)"+strings.Repeat(")", 63))
	shows(t, api.Whole, all, tab, heads+"(= (+"+pieces+" b62) 0)"+strings.Repeat(")", 63))
}

// TestMostVars binds all variables at once, in a row that falls, and some within.
func TestMostVars(t *testing.T) {
	of := api.Term{Add: whole.Of(-1)}
	var vars []int
	var pairs, pieces strings.Builder
	for k := range mostVars {
		of.Parts = append(of.Parts, api.Part{Var: k, Coef: whole.Of(1 + k%2)})
		vars = append(vars, lastVar-k)
		pairs.WriteString(fmt.Sprint(" (b", k, " Real)"))
		if k%2 == 0 {
			pieces.WriteString(fmt.Sprint(" (* 2 b", k, ")"))
		} else {
			pieces.WriteString(fmt.Sprint(" b", k))
		}
	}
	atom := leaf(api.Atom{Kind: api.Lt, Term: of})
	want := "(< (+" + pieces.String() + " (- 1)) 0)"
	shows(t, api.Real, exists(atom, vars...), names.New(), "(exists ("+pairs.String()[1:]+") "+want+")")
	inner := fmt.Sprint("(forall ((b", mostVars, " Real) (b", mostVars+1, " Real)) (= (+ b", lastVar-2, " b", mostVars, ") 0))")
	shows(t, api.Real, exists(and(forall(eq(0, 2, 1, 7, 1), 7, 8), atom, zero(7)), vars...), names.New(), "(exists ("+pairs.String()[1:]+") (and "+inner+" "+want+fmt.Sprint(" (= b", lastVar-7, " 0)))"))
	refuses(t, api.ErrName, api.Real, atom, declared("x"), "all variables, of which one has a name")
}

// TestMostNames has as many names as may be declared, all of them free, and such as bound variables have.
func TestMostNames(t *testing.T) {
	var l []string
	of := api.Term{}
	for k := range mostDeclared {
		// b1, b3, and so on, are left.
		l = append(l, fmt.Sprint("b", 2*(mostDeclared-1-k)))
		of.Parts = append(of.Parts, api.Part{Var: k, Coef: whole.Of(1)})
	}
	tab, atom := declared(l...), leaf(api.Atom{Term: of})
	all := strings.Join(l, " ")
	shows(t, api.Real, atom, tab, "(<= (+ "+all+") 0)")
	shows(t, api.Real, exists(and(atom, zero(mostDeclared+2)), mostDeclared, mostDeclared+1, mostDeclared+2), tab, "(exists ((b1 Real) (b3 Real) (b5 Real)) (and (<= (+ "+all+") 0) (= b5 0)))")
	vars := make([]int, mostDeclared+3)
	pairs := ""
	for k := range vars {
		vars[k] = mostDeclared + k
		pairs += fmt.Sprint(" (b", min(2*k+1, k+mostDeclared), " Real)")
	}
	shows(t, api.Real, forall(atom, vars...), tab, "(forall ("+pairs[1:]+") (<= (+ "+all+") 0))")
}

// TestLong shows numbers of many limbs, at each place of an atom.
func TestLong(t *testing.T) {
	x := api.Int{Limbs: slices.Repeat([]uint32{7}, mostLong/16)}
	less := x
	less.Neg = true
	n := modelNumber(x)
	a := api.Atom{Kind: api.Div, Term: api.Term{Parts: []api.Part{{Var: 0, Coef: x}, {Var: 1, Coef: less}}, Add: less}, Mod: x}
	shows(t, api.Whole, exists(leaf(a), 0), declared("x", "y"), "(exists ((b0 Int)) ((_ divisible "+n+") (+ (* (- "+n+") y) (* "+n+" b0) (- "+n+"))))")
	equal(t, termText(t, a.Term, declared("x", "y")), "(+ (* "+n+" x) (* (- "+n+") y) (- "+n+"))", "a term of long numbers")
}

// spare is a formula whose lists have something behind their end, and looks at whether it is as it was.
func spare(f formula, looks *[]func() bool) formula {
	g := formula{Op: f.Op, Atom: f.Atom, Vars: spareList(f.Vars, 9, looks)}
	g.Atom.Mod.Limbs = spareList(f.Atom.Mod.Limbs, 9, looks)
	g.Atom.Term = spareTerm(f.Atom.Term, looks)
	var kids []formula
	for _, kid := range f.Kids {
		kids = append(kids, spare(kid, looks))
	}
	g.Kids = spareAny(kids, formula{Op: 9}, looks)
	return g
}

// spareTerm is a term likewise.
func spareTerm(t api.Term, looks *[]func() bool) api.Term {
	l := slices.Clone(t.Parts)
	for k, p := range l {
		l[k].Coef.Limbs = spareList(p.Coef.Limbs, 9, looks)
	}
	t.Add.Limbs = spareList(t.Add.Limbs, 9, looks)
	t.Parts = spareAny(l, api.Part{Var: 9}, looks)
	return t
}

// spareList is a list likewise, of what can be compared.
func spareList[T comparable](l []T, behind T, looks *[]func() bool) []T {
	long := append(slices.Clone(l), behind, behind)
	kept := slices.Clone(long)
	*looks = append(*looks, func() bool { return slices.Equal(long, kept) })
	return long[:len(l)]
}

// spareAny is a list likewise, held against itself by its text.
func spareAny[T any](l []T, behind T, looks *[]func() bool) []T {
	long := append(slices.Clone(l), behind, behind)
	kept := fmt.Sprint(long)
	*looks = append(*looks, func() bool { return fmt.Sprint(long) == kept })
	return long[:len(l)]
}

// R1: what is handed in stays, the table among it, with an error and without; what is told once is told again.
func TestR1Stays(t *testing.T) {
	for _, in := range logics() {
		some(in, 178, 400, func(r *rand.Rand, f formula, called []string) {
			if r.Intn(8) == 0 {
				f = and(f, div(2, 0, 0, 1))
			}
			if r.Intn(8) == 0 {
				f = or(f, formula{Op: 99})
			}
			tab := declared(called[:3+r.Intn(3)]...)
			opened(tab, called[6:]...)
			var looks []func() bool
			f, of, n := spare(f, &looks), spareTerm(madeTerm(r), &looks), madeNumber(r)
			n.Limbs = spareList(n.Limbs, 9, &looks)
			kept := fmt.Sprint(*tab)
			s, e1 := show.Formula(in, f, tab)
			s2, e2 := show.Term(of, tab)
			s3 := show.Number(n)
			for k, look := range looks {
				if !look() {
					t.Fatal("something that was handed in has changed:", k, spell(f))
				}
			}
			equal(t, fmt.Sprint(*tab), kept, "the table behind the calls")
			again, e4 := show.Formula(in, f, tab)
			again2, e5 := show.Term(of, tab)
			if s != again || s2 != again2 || s3 != show.Number(n) || e1 != e4 || e2 != e5 {
				t.Error("told otherwise when asked again:", spell(f))
			}
		})
	}
}
