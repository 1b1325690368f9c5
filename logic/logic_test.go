package logic_test

import (
	"fmt"
	"maps"
	"math"
	"math/big"
	"math/rand"
	"slices"
	"strings"
	"testing"

	"alidade/api"
	"alidade/logic"
	"alidade/whole"
)

const (
	mostNodes = 1 << 12
	mostDepth = 64
	mostVars  = 1 << 20
	lastVar   = mostVars - 1
	mostLong  = 1 << 16
	full      = math.MaxUint32
)

// formula is written often.
type formula = api.Formula

// linear is the term of a number, and of variables, each with its Coef behind it; they have to rise.
func linear(add int, l ...int) api.Term {
	t := api.Term{Add: whole.Of(add)}
	for ; len(l) > 0; l = l[2:] {
		t.Parts = append(t.Parts, api.Part{Var: l[0], Coef: whole.Of(l[1])})
	}
	return t
}

// leaf is an atom as a formula, made by hand.
func leaf(a api.Atom) formula { return formula{Op: api.Is, Atom: a} }

// le, lt, eq, div are atoms of linear terms, as formulas.
func le(add int, l ...int) formula { return leaf(api.Atom{Kind: api.Le, Term: linear(add, l...)}) }
func lt(add int, l ...int) formula { return leaf(api.Atom{Kind: api.Lt, Term: linear(add, l...)}) }
func eq(add int, l ...int) formula { return leaf(api.Atom{Kind: api.Eq, Term: linear(add, l...)}) }
func div(mod, add int, l ...int) formula {
	return leaf(api.Atom{Kind: api.Div, Term: linear(add, l...), Mod: whole.Of(mod)})
}

// x says of a variable that it is 0, or less.
func x(v int) formula { return le(0, v, 1) }

// xs say it of so many variables, from one on.
func xs(from, many int) []formula {
	l := make([]formula, many)
	for k := range l {
		l[k] = x(from + k)
	}
	return l
}

// These are made by hand, of whatever stands within.
func yes() formula                       { return formula{Op: api.True} }
func no() formula                        { return formula{Op: api.False} }
func not(f formula) formula              { return formula{Op: api.Not, Kids: []formula{f}} }
func and(l ...formula) formula           { return formula{Op: api.And, Kids: l} }
func or(l ...formula) formula            { return formula{Op: api.Or, Kids: l} }
func exists(f formula, l ...int) formula { return bind(api.Exists, l, f) }
func forall(f formula, l ...int) formula { return bind(api.Forall, l, f) }
func bind(op uint8, l []int, f formula) formula {
	return formula{Op: op, Vars: l, Kids: []formula{f}}
}

// denied is a formula within so many Nots.
func denied(f formula, times int) formula {
	for range times {
		f = not(f)
	}
	return f
}

// spell tells all that a formula has; none and nothing are told the same way.
func spell(f formula) string { return fmt.Sprint(f) }

// brief tells a formula briefly.
func brief(f formula) string {
	s := "too deep"
	if n := few(f, 40); n <= 40 {
		s = spell(f)
	}
	if len(s) > 300 {
		s = s[:150] + " .. " + s[len(s)-150:]
	}
	return s
}

// few counts nodes, up to one more than so many.
func few(f formula, most int) int {
	n := 1
	for _, kid := range f.Kids {
		if n > most {
			return n
		}
		n += few(kid, most-n)
	}
	return n
}

// is complains unless a call answered what is wanted.
func is[T comparable](t *testing.T, got, want T, what ...any) {
	t.Helper()
	if got != want {
		t.Errorf("%s: got %v, want %v", fmt.Sprint(what...), got, want)
	}
}

// same complains unless a call answered the list that is wanted; none and nothing are the same.
func same[T comparable](t *testing.T, got, want []T, what ...any) {
	t.Helper()
	if !slices.Equal(got, want) {
		t.Errorf("%s: got %v, want %v", fmt.Sprint(what...), got, want)
	}
}

// tells complains unless a call answered the formula that is wanted, just so.
func tells(t *testing.T, got, want formula, what ...any) {
	t.Helper()
	if spell(got) != spell(want) {
		t.Errorf("%s: got %s, want %s", fmt.Sprint(what...), brief(got), brief(want))
	}
}

// renames complains unless Rename answers a formula.
func renames(t *testing.T, f formula, from, to []int, want formula) {
	t.Helper()
	if got, may := logic.Rename(f, from, to); !may || spell(got) != spell(want) {
		t.Errorf("Rename of %s, from %v to %v: got %s, %v, want %s, true", brief(f), from, to, brief(got), may, brief(want))
	}
}

// renamesNot complains unless Rename says no, and tells nothing.
func renamesNot(t *testing.T, f formula, from, to []int) {
	t.Helper()
	if got, may := logic.Rename(f, from, to); may || spell(got) != spell(formula{}) {
		t.Errorf("Rename of %s, %d to %d: got %s, %v, want nothing, false", brief(f), len(from), len(to), brief(got), may)
	}
}

// copied is a formula with memory of its own.
func copied(f formula) formula {
	f.Atom = copiedAtom(f.Atom)
	f.Vars = slices.Clone(f.Vars)
	f.Kids = slices.Clone(f.Kids)
	for k, kid := range f.Kids {
		f.Kids[k] = copied(kid)
	}
	return f
}

// copiedAtom is an atom with memory of its own.
func copiedAtom(a api.Atom) api.Atom {
	a.Mod.Limbs = slices.Clone(a.Mod.Limbs)
	a.Term.Add.Limbs = slices.Clone(a.Term.Add.Limbs)
	a.Term.Parts = slices.Clone(a.Term.Parts)
	for k, p := range a.Term.Parts {
		a.Term.Parts[k].Coef.Limbs = slices.Clone(p.Coef.Limbs)
	}
	return a
}

// spoil writes over all that a formula has memory for.
func spoil(f formula) {
	spoilAtom(f.Atom)
	spoilList(f.Vars, 777)
	for k := range f.Kids {
		spoil(f.Kids[k])
		f.Kids[k] = formula{Op: 200}
	}
	spoilList(f.Kids, formula{Op: 201})
}

// spoilAtom does so with an atom.
func spoilAtom(a api.Atom) {
	spoilList(a.Mod.Limbs, 77)
	spoilList(a.Term.Add.Limbs, 77)
	for k := range a.Term.Parts {
		spoilList(a.Term.Parts[k].Coef.Limbs, 77)
	}
	spoilList(a.Term.Parts, api.Part{Var: 777})
}

// spoilList writes over a list, and over what there is behind it.
func spoilList[T any](l []T, with T) {
	l = l[:cap(l)]
	for k := range l {
		l[k] = with
	}
}

// A model tells each answer by recursion over kids, as the words say it.

// modelSize is how many nodes a formula has.
func modelSize(f formula) int {
	n := 1
	for _, kid := range f.Kids {
		n += modelSize(kid)
	}
	return n
}

// modelDepth is how deep it is.
func modelDepth(f formula) int {
	n := 0
	for _, kid := range f.Kids {
		n = max(n, modelDepth(kid))
	}
	return n + 1
}

// modelFree are the variables of an atom, and those of all kids without a quantifier's Vars.
func modelFree(f formula) map[int]int {
	free := map[int]int{}
	for _, p := range f.Atom.Term.Parts {
		free[p.Var]++
	}
	for _, kid := range f.Kids {
		maps.Copy(free, modelFree(kid))
	}
	for _, v := range f.Vars {
		delete(free, v)
	}
	return free
}

// modelBound are the Vars of all quantifiers.
func modelBound(f formula) map[int]int {
	bound := map[int]int{}
	for _, v := range f.Vars {
		bound[v]++
	}
	for _, kid := range f.Kids {
		maps.Copy(bound, modelBound(kid))
	}
	return bound
}

// modelAtoms are the atoms, in their row.
func modelAtoms(f formula) (l []api.Atom) {
	if f.Op == api.Is {
		l = append(l, f.Atom)
	}
	for _, kid := range f.Kids {
		l = append(l, modelAtoms(kid)...)
	}
	return l
}

// nameless tells a formula as a text, in which bound variables stand by where they are bound.
func nameless(f formula, depth int, called map[int]string) string {
	inner := map[int]string{}
	maps.Copy(inner, called)
	for k, v := range f.Vars {
		inner[v] = fmt.Sprint("bound ", k, " at ", depth)
	}
	var parts, kids []string
	for _, p := range f.Atom.Term.Parts {
		name := inner[p.Var]
		if name == "" {
			name = fmt.Sprint("free ", p.Var)
		}
		parts = append(parts, fmt.Sprint(p.Coef, " times ", name))
	}
	slices.Sort(parts)
	for _, kid := range f.Kids {
		kids = append(kids, nameless(kid, depth+1, inner))
	}
	return fmt.Sprint(f.Op, f.Atom.Kind, f.Atom.Mod, f.Atom.Term.Add, len(f.Vars), parts, "(", strings.Join(kids, ", "), ")")
}

// modelJoined is And, or Or, of formulas: the first kid that has the Op goes for its own kids, till there is none.
func modelJoined(op uint8, l []formula) formula {
	idle, settled := api.True, api.False
	if op == api.Or {
		idle, settled = settled, idle
	}
	l = slices.Clone(l)
	hasOp := func(f formula) bool { return f.Op == op }
	for at := slices.IndexFunc(l, hasOp); at >= 0; at = slices.IndexFunc(l, hasOp) {
		l = slices.Replace(l, at, at+1, l[at].Kids...)
	}
	if slices.ContainsFunc(l, func(f formula) bool { return f.Op == settled }) {
		return formula{Op: settled}
	}
	l = slices.DeleteFunc(l, func(f formula) bool { return f.Op == idle })
	switch len(l) {
	case 0:
		return formula{Op: idle}
	case 1:
		return l[0]
	}
	return formula{Op: op, Kids: l}
}

// modelRename renames by recursion: at a quantifier it asks what would be caught there.
func modelRename(f formula, becomes map[int]int) (formula, bool) {
	becomes = maps.Clone(becomes)
	for _, v := range f.Vars {
		delete(becomes, v)
	}
	for _, kid := range f.Kids {
		for v := range modelFree(kid) {
			if to, is := becomes[v]; is && slices.Contains(f.Vars, to) {
				return formula{}, false
			}
		}
	}
	f = copied(f)
	f.Atom.Term.Parts = renamedParts(f.Atom.Term.Parts, becomes)
	for k, kid := range f.Kids {
		g, may := modelRename(kid, becomes)
		if !may {
			return formula{}, false
		}
		f.Kids[k] = g
	}
	return f, true
}

// renamedParts are multiples of renamed variables, put together.
func renamedParts(l []api.Part, becomes map[int]int) (parts []api.Part) {
	of := map[int]*big.Int{}
	for _, p := range l {
		v := p.Var
		if to, is := becomes[v]; is {
			v = to
		}
		if of[v] == nil {
			of[v] = new(big.Int)
		}
		n, _ := whole.Small(p.Coef)
		of[v].Add(of[v], big.NewInt(int64(n)))
	}
	for _, v := range slices.Sorted(maps.Keys(of)) {
		if of[v].Sign() != 0 {
			parts = append(parts, api.Part{Var: v, Coef: whole.Of(int(of[v].Int64()))})
		}
	}
	return parts
}

// truth is whether a formula is true, if atoms, and quantifiers, are as their texts say, mixed with a seed.
func truth(f formula, seed uint32) bool {
	switch f.Op {
	case api.True, api.False:
		return f.Op == api.True
	case api.Not:
		return !truth(f.Kids[0], seed)
	case api.And:
		return !slices.ContainsFunc(f.Kids, func(g formula) bool { return !truth(g, seed) })
	case api.Or:
		return slices.ContainsFunc(f.Kids, func(g formula) bool { return truth(g, seed) })
	}
	for _, c := range []byte(spell(f)) {
		seed = (seed ^ uint32(c)) * 16777619
	}
	return seed>>17&1 == 0
}

// pick is one of a list.
func pick[T any](r *rand.Rand, l []T) T { return l[r.Intn(len(l))] }

// madeAtom is an atom of a few variables.
func madeAtom(r *rand.Rand) api.Atom {
	a := api.Atom{Kind: uint8(r.Intn(4)), Term: api.Term{Add: whole.Of(r.Intn(3) - 1)}}
	if a.Kind == api.Div {
		a.Mod = whole.Of(1 + r.Intn(3))
	}
	for v := range 5 {
		if coef := r.Intn(7) - 3; coef == 1 || coef == 2 || coef == -1 {
			a.Term.Parts = append(a.Term.Parts, api.Part{Var: v, Coef: whole.Of(coef)})
		}
	}
	return a
}

// made is a formula of a few variables, free and bound, no deeper than that.
func made(r *rand.Rand, deep int) formula {
	op := uint8(r.Intn(8))
	if deep == 1 && op > api.Is {
		op = api.Is
	}
	f := formula{Op: op}
	kids := 1
	switch op {
	case api.True, api.False:
		kids = 0
	case api.Is:
		f.Atom, kids = madeAtom(r), 0
	case api.And, api.Or:
		kids = r.Intn(4)
	case api.Exists, api.Forall:
		f.Vars = r.Perm(6)[:1+r.Intn(3)]
	}
	for range kids {
		f.Kids = append(f.Kids, made(r, deep-1))
	}
	return f
}

// small are short formulas of all kinds, such as are alike among them.
func small() []formula {
	atoms := []formula{x(0), x(1), le(0, 0, 1, 1, 1), le(0, 0, 1, 1, 2), le(0, 0, 2, 1, 1), eq(0, 0, 1, 1, 1), lt(0, 0, 1), div(2, 0, 0, 1), div(3, 0, 0, 1), div(3, 1, 0, 1), le(1, 0, 1), le(0), eq(0), le(0, 0, 1, 1, 1, 2, 1), x(2)}
	l := slices.Concat([]formula{yes(), no(), and(), or()}, atoms)
	for _, f := range atoms {
		l = append(l, not(f), and(f), or(f), and(f, x(0)), or(x(1), f))
		for _, vars := range [][]int{{0}, {1}, {2}, {0, 1}, {1, 0}, {0, 2}, {3, 1}} {
			l = append(l, exists(f, vars...), forall(f, vars...), exists(and(f, exists(f, vars...)), 0))
			l = append(l, exists(exists(f, vars...), 1), exists(forall(f, vars...), 0, 2), and(f, exists(f, vars...)))
		}
	}
	return l
}

// many are small formulas, and others of a fixed seed.
func many() []formula {
	l := small()
	r := rand.New(rand.NewSource(15))
	for range 1500 {
		l = append(l, made(r, 1+r.Intn(6)))
	}
	return l
}

// rising are a map's keys, in their row.
func rising(m map[int]int) []int { return slices.Sorted(maps.Keys(m)) }

// TestExamples are those of the chapter.
func TestExamples(t *testing.T) {
	p, q := x(0), eq(0, 1, 1)
	f := exists(and(p, q), 0)
	same(t, logic.Free(f), []int{1}, "Free")
	is(t, logic.Size(f), 4, "Size")
	is(t, logic.Depth(f), 3, "Depth")
	is(t, logic.Alike(exists(p, 0), exists(x(1), 1)), true, "Alike")
	tells(t, logic.And([]formula{yes(), p, and(q, p)}), and(p, q, p), "And")
	renamesNot(t, exists(and(p, q), 1), []int{0}, []int{1})
	renames(t, exists(and(p, q), 1), []int{0}, []int{7}, exists(and(x(7), q), 1))
	tells(t, logic.Quantify(api.Exists, []int{0, 0, 1}, p), exists(p, 0), "Quantify")
}

// wrongNumbers are whole numbers that may not be.
func wrongNumbers() []api.Int {
	return []api.Int{{Neg: true}, {Limbs: []uint32{0}}, {Limbs: []uint32{5, 0}}, {Neg: true, Limbs: []uint32{0}}, {Limbs: slices.Repeat([]uint32{1}, mostLong+1)}}
}

// atomsThatMay are atoms that may be.
func atomsThatMay() []api.Atom {
	var l []api.Atom
	longest := api.Int{Limbs: slices.Repeat([]uint32{full}, mostLong)}
	for _, t := range []api.Term{{}, linear(1), linear(-7), linear(0, 0, 1), linear(3, 0, -2, 5, 1, lastVar, math.MinInt), {Parts: []api.Part{}, Add: api.Int{Limbs: []uint32{}}}, {Parts: []api.Part{{Var: 3, Coef: longest}}, Add: longest}} {
		for kind := range api.Div {
			l = append(l, api.Atom{Kind: kind, Term: t}, api.Atom{Kind: kind, Term: t, Mod: api.Int{Limbs: []uint32{}}})
		}
		for _, mod := range []api.Int{whole.Of(1), whole.Of(2), whole.Of(math.MaxInt), {Limbs: []uint32{0, 1}}, longest} {
			l = append(l, api.Atom{Kind: api.Div, Term: t, Mod: mod})
		}
	}
	return l
}

// atomsThatMayNot are atoms that may not be.
func atomsThatMayNot() []api.Atom {
	t := linear(1, 0, 1)
	var l []api.Atom
	for _, kind := range []uint8{4, 5, 6, 7, 8, 127, 128, 255} {
		l = append(l, api.Atom{Kind: kind}, api.Atom{Kind: kind, Term: t}, api.Atom{Kind: kind, Term: t, Mod: whole.Of(2)})
	}
	for kind := range api.Div {
		for _, mod := range append(wrongNumbers(), whole.Of(1), whole.Of(-1), whole.Of(7), api.Int{Limbs: []uint32{0, 1}}) {
			l = append(l, api.Atom{Kind: kind, Mod: mod}, api.Atom{Kind: kind, Term: t, Mod: mod})
		}
	}
	for _, mod := range append(wrongNumbers(), api.Int{}, whole.Of(-1), whole.Of(-3), whole.Of(math.MinInt)) {
		l = append(l, api.Atom{Kind: api.Div, Mod: mod}, api.Atom{Kind: api.Div, Term: t, Mod: mod})
	}
	terms := []api.Term{linear(0, -1, 1), linear(0, mostVars, 1), linear(0, math.MinInt, 1), linear(0, math.MaxInt, 1), linear(0, 1, 1, 0, 1), linear(0, 3, 1, 3, 1), linear(0, 3, 0), linear(0, 3, 1, 4, 0)}
	for _, n := range wrongNumbers() {
		terms = append(terms, api.Term{Add: n}, api.Term{Parts: []api.Part{{Var: 3, Coef: n}}}, api.Term{Parts: []api.Part{{Var: 3, Coef: whole.Of(1)}, {Var: 4, Coef: n}}})
	}
	for _, t := range terms {
		for kind := range api.Div {
			l = append(l, api.Atom{Kind: kind, Term: t})
		}
		l = append(l, api.Atom{Kind: api.Div, Term: t, Mod: whole.Of(2)})
	}
	return l
}

func TestP15_1Atom(t *testing.T) {
	for _, a := range atomsThatMay() {
		is(t, logic.Atom(a), true, "Atom of kind ", a.Kind, ", mod of ", len(a.Mod.Limbs), ", ", len(a.Term.Parts), " parts")
		f := logic.Is(a)
		is(t, f.Op, api.Is, "Is")
		is(t, logic.May(f) && logic.May(leaf(a)), true, "May of Is")
		if len(a.Mod.Limbs) < 9 && len(a.Term.Add.Limbs) < 9 {
			tells(t, f, leaf(a), "Is")
		}
	}
	for k, a := range atomsThatMayNot() {
		is(t, logic.Atom(a), false, "Atom ", k, " that may not be")
		is(t, logic.May(leaf(a)), false, "May of atom ", k, " that may not be")
		tells(t, logic.Is(a), no(), "Is of atom ", k, " that may not be")
	}
}

func TestIsLong(t *testing.T) {
	long := api.Int{Neg: true, Limbs: slices.Repeat([]uint32{full}, mostLong)}
	mod := api.Int{Limbs: slices.Repeat([]uint32{7}, mostLong)}
	f := logic.Is(api.Atom{Kind: api.Div, Term: api.Term{Parts: []api.Part{{Var: 1, Coef: long}, {Var: lastVar, Coef: mod}}, Add: long}, Mod: mod})
	a := f.Atom
	if f.Op != api.Is || len(a.Term.Parts) != 2 || whole.Cmp(a.Term.Parts[0].Coef, long) != 0 || whole.Cmp(a.Term.Parts[1].Coef, mod) != 0 || whole.Cmp(a.Term.Add, long) != 0 || whole.Cmp(a.Mod, mod) != 0 {
		t.Error("Is of the longest numbers")
	}
	g, may := logic.Rename(f, []int{1}, []int{lastVar - 1})
	if !may || !logic.Same(logic.Not(f).Kids[0], f) || !logic.Alike(logic.Quantify(api.Forall, []int{1}, f), logic.Quantify(api.Forall, []int{lastVar - 1}, g)) {
		t.Error("formulas of the longest numbers")
	}
}

// formulasThatMay are formulas that may be, some of them at the edges.
func formulasThatMay() []formula {
	return append(many(), le(0), exists(yes(), 0), forall(x(0), lastVar), exists(x(0), lastVar, 0, 7), exists(exists(x(0), 0), 0),
		formula{Vars: []int{}, Kids: []formula{}, Atom: api.Atom{Term: api.Term{Parts: []api.Part{}, Add: api.Int{Limbs: []uint32{}}}, Mod: api.Int{Limbs: []uint32{}}}},
		formula{Op: api.Not, Vars: []int{}, Kids: []formula{{Op: api.Is, Kids: []formula{}, Vars: []int{}}}})
}

// formulasThatMayNot are formulas of few nodes that may not be, Op by Op.
func formulasThatMayNot() []formula {
	var l []formula
	for op := range 256 {
		if op > int(api.Forall) {
			l = append(l, formula{Op: uint8(op)}, formula{Op: uint8(op), Kids: []formula{x(0)}}, formula{Op: uint8(op), Vars: []int{0}, Kids: []formula{x(0)}}, formula{Op: uint8(op), Atom: x(0).Atom})
		}
	}
	for op := range api.Forall + 1 {
		l = append(l, withTooMuch(op)...)
	}
	for _, op := range []uint8{api.Not, api.Exists, api.Forall} {
		for _, kids := range [][]formula{nil, {}, {x(0), x(1)}, {yes(), yes()}, {x(0), x(0), x(0)}} {
			l = append(l, right(op, kids))
		}
	}
	for _, op := range []uint8{api.Exists, api.Forall} {
		for _, vars := range [][]int{nil, {}, {-1}, {mostVars}, {0, -1}, {0, mostVars}, {math.MinInt}, {math.MaxInt}, {0, 0}, {1, 0, 1}, {7, 8, 9, 10, 8}, {lastVar, 0, lastVar}} {
			l = append(l, bind(op, vars, x(0)), bind(op, vars, yes()))
		}
	}
	for _, a := range atomsThatMayNot() {
		l = append(l, leaf(a))
	}
	return l
}

// right is a formula of an Op, with its kids, and with Vars, if it names them.
func right(op uint8, kids []formula) formula {
	f := formula{Op: op, Kids: kids}
	if op == api.Exists || op == api.Forall {
		f.Vars = []int{0}
	}
	return f
}

// withTooMuch are formulas of an Op with what it does not name.
func withTooMuch(op uint8) (l []formula) {
	f := right(op, nil)
	if op == api.Not || len(f.Vars) > 0 {
		f.Kids = []formula{x(0)}
	}
	if op == api.Is {
		f = x(0)
	}
	if op < api.Not {
		for _, kids := range [][]formula{{{}}, {x(0)}, {x(0), x(1)}} {
			g := f
			g.Kids = kids
			l = append(l, g)
		}
	}
	if len(f.Vars) == 0 {
		for _, vars := range [][]int{{0}, {1, 2}, {-1}, {lastVar}} {
			g := f
			g.Vars = vars
			l = append(l, g)
		}
	}
	if op != api.Is {
		two, none := whole.Of(2), api.Int{}
		for _, a := range []api.Atom{{Kind: api.Lt}, {Kind: api.Eq}, {Kind: api.Div}, {Kind: api.Div, Mod: two}, {Kind: 9}, {Term: linear(1)}, {Term: linear(-1)}, {Term: linear(0, 0, 1)}, {Mod: two}, {Mod: whole.Of(-2)}, {Mod: api.Int{Neg: true}}, {Term: api.Term{Add: api.Int{Neg: true}}}, {Term: api.Term{Add: api.Int{Limbs: []uint32{0}}}}, {Mod: api.Int{Limbs: []uint32{0}}}, {Term: api.Term{Parts: []api.Part{{Var: 0, Coef: none}}}}, {Term: api.Term{Parts: []api.Part{{Var: -1, Coef: two}}}}} {
			g := f
			g.Atom = a
			l = append(l, g)
		}
	}
	return l
}

// around are formulas that have another one within them.
func around(f formula) []formula {
	return []formula{f, not(f), and(f), or(x(0), f), and(f, x(1)), exists(f, 0), forall(f, 1), not(not(f)), or(yes(), and(no(), exists(not(f), 3, 4))), and(and(and(x(0), f)), or(x(1)))}
}

// refusesFormula complains unless all calls say that a formula may not be.
func refusesFormula(t *testing.T, f formula, what ...any) {
	t.Helper()
	is(t, logic.May(f), false, append(what, ": May")...)
	is(t, logic.Size(f), 0, append(what, ": Size")...)
	is(t, logic.Depth(f), 0, append(what, ": Depth")...)
	is(t, len(logic.Free(f))+len(logic.Bound(f))+len(logic.Atoms(f)), 0, append(what, ": Free, Bound, Atoms")...)
	is(t, logic.Plain(f), false, append(what, ": Plain")...)
	is(t, logic.Same(f, f) || logic.Same(f, x(0)) || logic.Same(x(0), f) || logic.Same(yes(), f) || logic.Same(f, yes()), false, append(what, ": Same")...)
	is(t, logic.Alike(f, f) || logic.Alike(f, x(0)) || logic.Alike(x(0), f) || logic.Alike(no(), f) || logic.Alike(f, no()), false, append(what, ": Alike")...)
	for k, g := range []formula{logic.Not(f), logic.And([]formula{f}), logic.And([]formula{x(0), f}), logic.And([]formula{no(), f}), logic.And([]formula{f, yes()}), logic.Or([]formula{f}), logic.Or([]formula{f, x(0)}), logic.Or([]formula{yes(), f}), logic.Or([]formula{f, yes()}), logic.Quantify(api.Exists, []int{0}, f), logic.Quantify(api.Forall, nil, f), logic.Quantify(api.Exists, []int{77}, f)} {
		tells(t, g, no(), append(what, ": what is told ", k)...)
	}
	renamesNot(t, f, nil, nil)
	renamesNot(t, f, []int{0}, []int{5})
}

func TestP15_1May(t *testing.T) {
	for _, f := range formulasThatMay() {
		is(t, logic.May(f), true, "May of ", brief(f))
		for _, g := range around(f) {
			is(t, logic.May(g), true, "May of ", brief(g))
		}
	}
	for k, f := range formulasThatMayNot() {
		for n, g := range around(f) {
			refusesFormula(t, g, "formula ", k, " that may not be, within ", n)
		}
	}
}

// wide is an And of so many nodes.
func wide(nodes int) formula { return and(xs(0, nodes-1)...) }

// chains are formulas so deep, of several kinds.
func chains(deep int) []formula {
	l := []formula{denied(x(0), deep-1)}
	for _, on := range []func(f formula) formula{func(f formula) formula { return and(f) }, func(f formula) formula { return or(x(1), f) }, func(f formula) formula { return exists(f, 0) }, func(f formula) formula { return forall(f, 1, 0) }, func(f formula) formula { return or(f, yes()) }} {
		f := x(2)
		for range deep - 1 {
			f = on(f)
		}
		l = append(l, f)
	}
	return l
}

// bushy is a formula so deep that has so many nodes, most of them deep down.
func bushy(nodes, deep int) formula {
	f := wide(nodes - (deep - 2))
	return denied(f, deep-2)
}

func TestMostNodes(t *testing.T) {
	for _, nodes := range []int{1, 2, 3, mostNodes - 1, mostNodes} {
		f := wide(nodes)
		is(t, logic.May(f), true, "May of ", nodes, " nodes")
		is(t, logic.Size(f), nodes, "Size of ", nodes, " nodes")
		is(t, len(logic.Free(f)), nodes-1, "Free of ", nodes, " nodes")
		is(t, len(logic.Atoms(f)), nodes-1, "Atoms of ", nodes, " nodes")
		is(t, logic.Same(f, copied(f)) && logic.Alike(f, copied(f)), true, "Same, Alike of ", nodes, " nodes")
		renames(t, f, []int{lastVar}, []int{0}, f)
	}
	for _, nodes := range []int{mostNodes + 1, mostNodes + 2, 2 * mostNodes, 1 << 16} {
		refusesFormula(t, wide(nodes), nodes, " nodes")
	}
	for _, deep := range []int{3, 10, mostDepth} {
		f := bushy(mostNodes, deep)
		is(t, logic.Size(f), mostNodes, "Size of the most nodes, ", deep, " deep")
		is(t, logic.Depth(f), deep, "Depth of the most nodes, ", deep, " deep")
		refusesFormula(t, bushy(mostNodes+1, deep), "one node more, ", deep, " deep")
	}
	refusesFormula(t, bushy(mostNodes, mostDepth+1), "the most nodes, one deeper")
	// Halves that are so many only together.
	f := or(wide(mostNodes/2), wide(mostNodes/2-1))
	is(t, logic.Size(f), mostNodes, "Size of halves")
	refusesFormula(t, or(wide(mostNodes/2), wide(mostNodes/2)), "halves that are too much")
}

func TestMostDepth(t *testing.T) {
	for _, deep := range []int{1, 2, mostDepth - 1, mostDepth} {
		for _, f := range chains(deep) {
			is(t, logic.May(f), true, "May, ", deep, " deep")
			is(t, logic.Depth(f), deep, "Depth, ", deep, " deep")
			is(t, logic.Same(f, copied(f)) && logic.Alike(f, copied(f)), true, "Same, Alike, ", deep, " deep")
		}
	}
	for _, deep := range []int{mostDepth + 1, mostDepth + 2, 1000, 1 << 16} {
		for k, f := range chains(deep) {
			refusesFormula(t, f, deep, " deep, ", k)
		}
	}
	// A branch that is deep behind others that are not, and ahead of them.
	deep := denied(x(0), mostDepth-2)
	is(t, logic.Depth(and(x(0), deep, x(1))), mostDepth, "Depth of a branch")
	refusesFormula(t, and(x(0), not(deep), x(1)), "a branch that is too deep")
	refusesFormula(t, or(not(deep), x(0)), "a first branch that is too deep")
}

// TestNoEnd hands in formulas that are more nodes than there is memory for.
func TestNoEnd(t *testing.T) {
	f := x(0)
	for range 62 {
		f = and(f, f)
	}
	refusesFormula(t, f, "twice as much, 62 times")
	g := and(x(0), x(1), x(2))
	g.Kids[1].Op, g.Kids[1].Atom, g.Kids[1].Kids = api.And, api.Atom{}, g.Kids
	refusesFormula(t, g, "a formula within itself")
	h := not(x(0))
	h.Kids[0] = h
	h.Kids[0].Kids = h.Kids
	refusesFormula(t, h, "a formula that is not itself")
	// Shared pieces that are not too many may be.
	f = x(0)
	for range 11 {
		f = and(f, f)
	}
	is(t, logic.Size(f), mostNodes-1, "Size of shared pieces")
	refusesFormula(t, and(f, f), "shared pieces that are too many")
}

func TestMostVars(t *testing.T) {
	all := make([]int, mostVars)
	for k := range all {
		all[k] = lastVar - k
	}
	f := exists(le(0, 0, 1, 5, 1, lastVar, 1), all...)
	is(t, logic.May(f), true, "May of all variables")
	is(t, len(logic.Bound(f)), mostVars, "Bound of all variables")
	is(t, len(logic.Free(f)), 0, "Free of all variables")
	is(t, logic.May(exists(x(0), append(slices.Clone(all), 0)...)), false, "May of all variables, and one")
	twice := slices.Clone(all)
	twice[mostVars/2] = 0
	is(t, logic.May(exists(x(0), twice...)), false, "May of all variables but one, that is there twice")
	tells(t, logic.Quantify(api.Forall, append(slices.Clone(all), all...), le(0, 0, 1, 5, 1, lastVar, 1)), forall(le(0, 0, 1, 5, 1, lastVar, 1), lastVar, 5, 0), "Quantify by all variables, twice")
	down, up := slices.Clone(all), slices.Clone(all)
	slices.Reverse(up)
	renames(t, le(0, 0, 1, 5, 2, lastVar, 3), down, up, le(0, 0, 3, lastVar-5, 2, lastVar, 1))
}

func TestP15_1Counted(t *testing.T) {
	for _, f := range many() {
		is(t, logic.Size(f), modelSize(f), "Size of ", brief(f))
		is(t, logic.Depth(f), modelDepth(f), "Depth of ", brief(f))
		same(t, logic.Free(f), rising(modelFree(f)), "Free of ", brief(f))
		same(t, logic.Bound(f), rising(modelBound(f)), "Bound of ", brief(f))
		is(t, fmt.Sprint(logic.Atoms(f)), fmt.Sprint(modelAtoms(f)), "Atoms of ", brief(f))
		is(t, logic.Plain(f), len(modelBound(f)) == 0, "Plain of ", brief(f))
	}
}

func TestP15_1FreeAndBound(t *testing.T) {
	for _, c := range []struct {
		f           formula
		free, bound []int
	}{
		{yes(), nil, nil},
		{le(3), nil, nil},
		{le(0, 9, 1, 12, 1), []int{9, 12}, nil},
		{and(x(7), x(3), x(7), x(5), x(3)), []int{3, 5, 7}, nil},
		{exists(x(0), 1), []int{0}, []int{1}},
		{forall(yes(), 9, 3, 5), nil, []int{3, 5, 9}},
		{and(x(0), exists(x(0), 0)), []int{0}, []int{0}},
		{and(exists(x(0), 0), x(0)), []int{0}, []int{0}},
		{and(exists(x(0), 0), exists(x(1), 0)), []int{1}, []int{0}},
		{exists(and(x(0), forall(x(0), 0), x(0)), 0), nil, []int{0}},
		{exists(and(x(0), forall(and(x(0), x(1)), 1), x(1)), 0), []int{1}, []int{0, 1}},
		{exists(exists(le(0, 0, 1, 1, 1, 2, 1, 3, 1), 2, 1), 1, 3), []int{0}, []int{1, 2, 3}},
		{not(or(exists(not(x(4)), 6), x(lastVar))), []int{4, lastVar}, []int{6}},
	} {
		same(t, logic.Free(c.f), c.free, "Free of ", brief(c.f))
		same(t, logic.Bound(c.f), c.bound, "Bound of ", brief(c.f))
		is(t, logic.Plain(c.f), len(c.bound) == 0, "Plain of ", brief(c.f))
	}
}

func TestP15_1Same(t *testing.T) {
	l, texts := pairs(151, func(f formula) string { return spell(f) })
	for k, f := range l {
		is(t, logic.Same(f, copied(f)), true, "Same of a copy of ", brief(f))
		for n, g := range l {
			if want := texts[k] == texts[n]; logic.Same(f, g) != want {
				t.Errorf("Same of %s and %s: got %v", brief(f), brief(g), !want)
			}
		}
	}
	is(t, logic.Same(formula{Kids: []formula{}, Vars: []int{}}, yes()), true, "Same of none and nothing")
	is(t, logic.Same(exists(x(0), 0), exists(x(1), 1)), false, "Same of what is alike alone")
	is(t, logic.Same(exists(x(0), 0, 1), exists(x(0), 1, 0)), false, "Same of Vars in another row")
	is(t, logic.Same(and(x(0), x(1)), and(x(1), x(0))), false, "Same of kids in another row")
	is(t, logic.Same(and(and(x(0)), x(1)), and(and(x(0), x(1)))), false, "Same of kids elsewhere")
}

func TestP15_1Alike(t *testing.T) {
	two := le(0, 0, 1, 1, 2)
	for _, c := range []struct {
		a, b formula
		want bool
	}{
		{x(0), x(0), true},
		{x(0), x(1), false},
		{exists(x(0), 0), exists(x(9), 9), true},
		{exists(x(0), 0), forall(x(9), 9), false},
		{exists(x(0), 0), exists(x(9), 0), false},
		{exists(x(0), 0), exists(x(0), 9), false},
		{exists(x(1), 0), exists(x(1), 2), true},
		{exists(x(1), 0), exists(x(0), 1), false},
		{exists(yes(), 0), exists(yes(), 1), true},
		{exists(yes(), 0), exists(yes(), 1, 2), false},
		{exists(yes(), 0, 1), exists(yes(), 1, 0), true},
		{exists(x(0), 0, 1), exists(x(0), 1, 0), false},
		{exists(x(0), 0, 1), exists(x(1), 1, 0), true},
		{exists(two, 0, 1), exists(two, 1, 0), false},
		{exists(two, 0, 1), exists(le(0, 0, 2, 1, 1), 1, 0), true},
		{exists(two, 0, 1), exists(exists(two, 1), 0), false},
		{exists(forall(two, 1), 0), exists(forall(two, 0), 1), false},
		{exists(forall(two, 1), 0), exists(forall(le(0, 0, 2, 1, 1), 0), 1), true},
		// The terms' parts stand in another row.
		{exists(two, 0), exists(le(0, 1, 2, 5, 1), 5), true},
		{exists(two, 0), exists(le(0, 1, 1, 5, 2), 5), false},
		{exists(le(0, 0, 1, 1, 2, 2, 3), 0, 2), exists(le(0, 1, 2, 7, 3, 9, 1), 9, 7), true},
		{exists(le(0, 0, 1, 1, 2, 2, 3), 0, 2), exists(le(0, 1, 2, 7, 3, 9, 1), 7, 9), false},
		// One of them hides another one.
		{exists(exists(x(0), 0), 0), exists(exists(x(0), 0), 1), true},
		{exists(exists(x(0), 0), 0), exists(exists(x(0), 1), 0), false},
		{exists(exists(x(0), 1), 0), exists(exists(x(1), 0), 1), true},
		{exists(and(x(0), exists(x(0), 0), x(0)), 0), exists(and(x(1), exists(x(2), 2), x(1)), 1), true},
		{exists(and(x(0), exists(x(0), 0), x(0)), 0), exists(and(x(1), exists(x(2), 2), x(2)), 1), false},
		{exists(and(x(0), exists(x(0), 0)), 0), exists(and(x(1), exists(x(1), 2)), 1), false},
		// The same name at other places of the row.
		{and(exists(x(0), 0), exists(x(1), 1)), and(exists(x(1), 1), exists(x(0), 0)), true},
		{and(exists(x(0), 0), x(0)), and(exists(x(0), 0), x(1)), false},
		{and(x(0), exists(x(0), 0)), and(x(0), exists(x(1), 1)), true},
		{and(exists(x(0), 0), x(0)), and(exists(x(1), 1), x(0)), true},
		{exists(and(x(0), x(1)), 0), exists(and(x(0), x(1)), 1), false},
		// A part more.
		{exists(le(0, 0, 1, 1, 1), 0), exists(x(0), 0), false},
		{exists(x(0), 0), exists(le(0, 0, 1, 1, 1), 0), false},
		{exists(le(0), 0), exists(x(0), 0), false},
		// What else atoms have.
		{exists(x(0), 0), exists(lt(0, 1, 1), 1), false},
		{exists(x(0), 0), exists(le(1, 1, 1), 1), false},
		{exists(x(0), 0), exists(le(0, 1, 2), 1), false},
		{exists(x(0), 0), exists(le(0, 1, -1), 1), false},
		{exists(div(2, 0, 0, 1), 0), exists(div(3, 0, 1, 1), 1), false},
		{exists(div(3, 0, 0, 1), 0), exists(div(3, 0, 1, 1), 1), true},
		{and(x(0)), or(x(0)), false},
		{and(x(0)), x(0), false},
		{and(and(x(0)), x(1)), and(and(x(0), x(1))), false},
		{yes(), and(), false},
	} {
		is(t, logic.Alike(c.a, c.b), c.want, "Alike of ", brief(c.a), " and ", brief(c.b))
		is(t, logic.Alike(c.b, c.a), c.want, "Alike of ", brief(c.b), " and ", brief(c.a))
	}
}

// others are variables that stand in none of the formulas that are made, in any row.
func others(r *rand.Rand) *[]int {
	l := r.Perm(1000)
	for k := range l {
		l[k] += 100
	}
	return &l
}

// called is a formula that is alike: each bound variable is another one of those that are not used.
func called(f formula, names map[int]int, unused *[]int) formula {
	f = copied(f)
	inner := map[int]int{}
	maps.Copy(inner, names)
	for k, v := range f.Vars {
		f.Vars[k] = (*unused)[k]
		inner[v] = f.Vars[k]
	}
	*unused = (*unused)[len(f.Vars):]
	f.Atom.Term.Parts = renamedParts(f.Atom.Term.Parts, inner)
	for k, kid := range f.Kids {
		f.Kids[k] = called(kid, inner, unused)
	}
	return f
}

// pairs are formulas that are held against each other, each with all, and what texts they have.
func pairs(seed int64, text func(f formula) string) (l []formula, texts []string) {
	r := rand.New(rand.NewSource(seed))
	for k, f := range small() {
		if k%3 == 0 || k < 25 {
			l = append(l, f)
		}
	}
	for range 60 {
		f := made(r, 1+r.Intn(5))
		l = append(l, f, called(f, nil, others(r)))
	}
	for _, f := range l {
		texts = append(texts, text(f))
	}
	return l, texts
}

func TestP15_4Alike(t *testing.T) {
	l, texts := pairs(154, func(f formula) string { return nameless(f, 0, nil) })
	alike := 0
	for k, f := range l {
		for n, g := range l {
			want := texts[k] == texts[n]
			if logic.Alike(f, g) != want {
				t.Errorf("Alike of %s and %s: got %v", brief(f), brief(g), !want)
			}
			if !want {
				continue
			}
			alike++
			same(t, logic.Free(f), logic.Free(g), "Free of ", brief(f), " and ", brief(g))
			is(t, logic.Size(f), logic.Size(g), "Size of ", brief(f), " and ", brief(g))
			is(t, logic.Depth(f), logic.Depth(g), "Depth of ", brief(f), " and ", brief(g))
		}
	}
	// Were there few, this would say little.
	is(t, alike > 2*len(l), true, "as many as ", alike, " of ", len(l), " are alike")
}

func TestP15_4Renamed(t *testing.T) {
	r := rand.New(rand.NewSource(1540))
	for _, f := range many() {
		g := called(f, nil, others(r))
		is(t, logic.Alike(f, g), true, "Alike of ", brief(f), " and ", brief(g))
		is(t, logic.Alike(g, f), true, "Alike of ", brief(g), " and ", brief(f))
		is(t, logic.Same(f, g), logic.Plain(f), "Same of ", brief(f), " and ", brief(g))
		h := called(g, nil, others(r))
		is(t, logic.Alike(f, h), true, "Alike of ", brief(f), " and ", brief(h))
	}
}

func TestP15_2Not(t *testing.T) {
	tells(t, logic.Not(yes()), no(), "Not of True")
	tells(t, logic.Not(no()), yes(), "Not of False")
	for _, f := range many() {
		want := not(f)
		switch f.Op {
		case api.True:
			want = no()
		case api.False:
			want = yes()
		case api.Not:
			want = f.Kids[0]
		}
		tells(t, logic.Not(f), want, "Not of ", brief(f))
		tells(t, logic.Not(not(f)), f, "Not of Not of ", brief(f))
	}
	tells(t, logic.Not(not(not(x(0)))), not(x(0)), "Not of Not of Not")
	tells(t, logic.Not(not(yes())), yes(), "Not of Not of True")
	tells(t, logic.Not(and(no())), not(and(no())), "Not of an And")
}

func TestNotMost(t *testing.T) {
	is(t, logic.Size(logic.Not(wide(mostNodes-1))), mostNodes, "Not of one node less than the most")
	tells(t, logic.Not(wide(mostNodes)), no(), "Not of the most nodes")
	tells(t, logic.Not(bushy(mostNodes, 9)), bushy(mostNodes, 9).Kids[0], "Not of a Not of the most nodes")
	for k, f := range chains(mostDepth - 1) {
		if k > 0 {
			tells(t, logic.Not(f), not(f), "Not, as deep as may be, ", k)
		}
	}
	for k, f := range chains(mostDepth) {
		want := no()
		if k == 0 {
			want = f.Kids[0]
		}
		tells(t, logic.Not(f), want, "Not of what is as deep as may be, ", k)
	}
}

// joined complains unless And, and Or, of formulas are as the model has it.
func joined(t *testing.T, l ...formula) {
	t.Helper()
	tells(t, logic.And(l), modelJoined(api.And, l), "And of ", brief(and(l...)))
	tells(t, logic.Or(l), modelJoined(api.Or, l), "Or of ", brief(or(l...)))
}

func TestP15_2AndOr(t *testing.T) {
	p, q, r := x(0), eq(0, 1, 1), exists(lt(1, 2, 1), 2)
	for _, c := range []struct {
		l       []formula
		and, or formula
	}{
		{nil, yes(), no()},
		{[]formula{}, yes(), no()},
		{[]formula{yes()}, yes(), yes()},
		{[]formula{no()}, no(), no()},
		{[]formula{yes(), no()}, no(), yes()},
		{[]formula{no(), yes()}, no(), yes()},
		{[]formula{yes(), yes(), yes()}, yes(), yes()},
		{[]formula{no(), no(), no()}, no(), no()},
		{[]formula{p}, p, p},
		{[]formula{p, p}, and(p, p), or(p, p)},
		{[]formula{p, q, r}, and(p, q, r), or(p, q, r)},
		{[]formula{r, q, p, q}, and(r, q, p, q), or(r, q, p, q)},
		{[]formula{yes(), p, yes()}, p, yes()},
		{[]formula{no(), p, no()}, no(), p},
		{[]formula{p, yes(), q}, and(p, q), yes()},
		{[]formula{p, no(), q}, no(), or(p, q)},
		{[]formula{and()}, yes(), and()},
		{[]formula{or()}, or(), no()},
		{[]formula{and(), p}, p, or(and(), p)},
		{[]formula{or(), p}, and(or(), p), p},
		{[]formula{and(p, q)}, and(p, q), and(p, q)},
		{[]formula{or(p, q)}, or(p, q), or(p, q)},
		{[]formula{and(p, q), r}, and(p, q, r), or(and(p, q), r)},
		{[]formula{or(p, q), r}, and(or(p, q), r), or(p, q, r)},
		{[]formula{p, and(q, and(r, and(p)), q), p}, and(p, q, r, p, q, p), or(p, and(q, and(r, and(p)), q), p)},
		{[]formula{p, or(q, or(r, or(p)), q), p}, and(p, or(q, or(r, or(p)), q), p), or(p, q, r, p, q, p)},
		{[]formula{and(p, and(q, no()))}, no(), and(p, and(q, no()))},
		{[]formula{or(p, or(q, yes()))}, or(p, or(q, yes())), yes()},
		{[]formula{and(yes(), and(yes(), p))}, p, and(yes(), and(yes(), p))},
		{[]formula{or(no(), or(no(), p))}, or(no(), or(no(), p)), p},
		{[]formula{or(and(p, q)), r}, and(or(and(p, q)), r), or(and(p, q), r)},
		{[]formula{and(or(p, q)), r}, and(or(p, q), r), or(and(or(p, q)), r)},
		{[]formula{not(and(p, q)), not(yes())}, and(not(and(p, q)), not(yes())), or(not(and(p, q)), not(yes()))},
		{[]formula{exists(and(p, yes()), 0), q}, and(exists(and(p, yes()), 0), q), or(exists(and(p, yes()), 0), q)},
	} {
		tells(t, logic.And(c.l), c.and, "And of ", brief(and(c.l...)))
		tells(t, logic.Or(c.l), c.or, "Or of ", brief(or(c.l...)))
		joined(t, c.l...)
	}
	l := small()
	for k, f := range l {
		joined(t, f)
		joined(t, f, l[len(l)-1-k])
		joined(t, l[k*7%len(l)], f, and(f, or(f)), or(and(), f))
	}
	s := rand.New(rand.NewSource(152))
	for range 2000 {
		l := make([]formula, s.Intn(5))
		for k := range l {
			l[k] = made(s, 1+s.Intn(4))
		}
		joined(t, l...)
	}
}

func TestAndOrMost(t *testing.T) {
	ops := []struct {
		op, other     uint8
		idle, settled formula
		call          func(l []formula) formula
	}{{api.And, api.Or, yes(), no(), logic.And}, {api.Or, api.And, no(), yes(), logic.Or}}
	for _, o := range ops {
		idle, settled := o.idle, o.settled
		l := xs(0, mostNodes-1)
		tells(t, o.call(l), formula{Op: o.op, Kids: l}, "of the most nodes")
		tells(t, o.call(append(slices.Clone(l), idle, formula{Op: o.op, Kids: []formula{idle}}, formula{Op: o.op})), formula{Op: o.op, Kids: l}, "of the most nodes, and what changes nothing")
		for _, many := range []int{mostNodes, mostNodes + 1, 1 << 16} {
			l := xs(0, many)
			tells(t, o.call(l), no(), "of ", many)
			tells(t, o.call(append(l, settled)), settled, "of ", many, ", and what settles it")
			tells(t, o.call(append(l, formula{Op: o.op, Kids: []formula{x(0), settled}})), settled, "of ", many, ", and what settles it within")
		}
		// Two halves are one node less together than each by itself.
		half := formula{Op: o.op, Kids: xs(0, mostNodes/2)}
		rest := formula{Op: o.op, Kids: xs(9, mostNodes/2-1)}
		tells(t, o.call([]formula{half, rest}), formula{Op: o.op, Kids: slices.Concat(half.Kids, rest.Kids)}, "of halves")
		tells(t, o.call([]formula{half, rest, x(3)}), no(), "of halves, and one more")
		tells(t, o.call([]formula{half, half}), no(), "of halves that are too much")
		other := formula{Op: o.other, Kids: xs(0, mostNodes-1)}
		tells(t, o.call([]formula{idle, other}), other, "of one that has the most nodes")
		tells(t, o.call([]formula{x(0), other}), no(), "of one that has the most nodes, and another one")
		// As deep as may be.
		for k, f := range chains(mostDepth) {
			tells(t, o.call([]formula{f, idle}), modelJoined(o.op, []formula{f}), "of one that is as deep as may be, ", k)
			want := no()
			if f.Op == o.op {
				want = modelJoined(o.op, []formula{f, x(7)})
			}
			tells(t, o.call([]formula{f, x(7)}), want, "of what is as deep as may be, and another one, ", k)
		}
		for k, f := range chains(mostDepth - 1) {
			tells(t, o.call([]formula{x(7), f}), modelJoined(o.op, []formula{x(7), f}), "of another one, and what is one less deep, ", k)
		}
	}
}

func TestP15_6Short(t *testing.T) {
	r := rand.New(rand.NewSource(156))
	for range 3000 {
		l := make([]formula, r.Intn(5))
		for k := range l {
			l[k] = made(r, 1+r.Intn(4))
		}
		all, any := logic.And(l), logic.Or(l)
		for seed := range uint32(8) {
			is(t, truth(all, seed), truth(and(l...), seed), "truth of And of ", brief(and(l...)))
			is(t, truth(any, seed), truth(or(l...), seed), "truth of Or of ", brief(or(l...)))
			for _, f := range l {
				is(t, truth(logic.Not(f), seed), !truth(f, seed), "truth of Not of ", brief(f))
			}
		}
		short(t, api.And, all)
		short(t, api.Or, any)
	}
}

// short complains if what And, or Or, told has that Op, and less than two kids, or one with the Op, or one that is True, or False.
func short(t *testing.T, op uint8, f formula) {
	t.Helper()
	isLong := func(kid formula) bool { return kid.Op == op || kid.Op < api.Is }
	if f.Op == op && (len(f.Kids) < 2 || slices.ContainsFunc(f.Kids, isLong)) {
		t.Errorf("%s could be shorter", brief(f))
	}
}

func TestP15_6NoTruths(t *testing.T) {
	r := rand.New(rand.NewSource(1560))
	var l []formula
	for len(l) < 400 {
		if f := made(r, 1+r.Intn(4)); !hasTruths(f) {
			l = append(l, f)
		}
	}
	for k := range l {
		some := l[k:min(k+1+k%4, len(l))]
		for _, f := range []formula{logic.And(some), logic.Or(some), logic.Not(l[k])} {
			is(t, hasTruths(f), false, "truths in ", brief(f))
		}
		f := logic.And(some)
		is(t, f.Op == api.And && slices.ContainsFunc(f.Kids, func(g formula) bool { return g.Op == api.And }), false, "Ands in ", brief(f))
	}
}

// hasTruths tells whether True, or False, stands in a formula, or what is one of them by having no kids.
func hasTruths(f formula) bool {
	return f.Op < api.Is || f.Op > api.Not && len(f.Kids) == 0 || slices.ContainsFunc(f.Kids, hasTruths)
}

func TestP15_3Quantify(t *testing.T) {
	f := and(x(3), exists(le(0, 1, 1, 3, 1, 5, 1), 1), x(9))
	for _, op := range []uint8{api.Exists, api.Forall} {
		for _, c := range []struct{ vars, want []int }{
			{[]int{3}, []int{3}},
			{[]int{9, 3, 5}, []int{9, 3, 5}},
			{[]int{5, 3, 9}, []int{5, 3, 9}},
			{[]int{3, 3, 3}, []int{3}},
			{[]int{9, 3, 9, 5, 3, 9}, []int{9, 3, 5}},
			{[]int{1, 9, 2, 0}, []int{9}},
			{[]int{lastVar, 5, 0, 5}, []int{5}},
			{[]int{4, 4, 3, 4}, []int{3}},
		} {
			tells(t, logic.Quantify(op, c.vars, f), bind(op, c.want, f), "Quantify of ", c.vars)
		}
		for _, vars := range [][]int{nil, {}, {1}, {0, 2, 4}, {1, 1, lastVar}, {10, 8}} {
			tells(t, logic.Quantify(op, vars, f), f, "Quantify of none, ", vars)
		}
		for _, vars := range [][]int{{-1}, {mostVars}, {3, -1}, {-1, 3}, {3, mostVars}, {math.MinInt, 3}, {3, math.MaxInt}, {1, -7}} {
			tells(t, logic.Quantify(op, vars, f), no(), "Quantify of what may not be, ", vars)
			tells(t, logic.Quantify(op, vars, yes()), no(), "Quantify of what may not be, of True, ", vars)
		}
		tells(t, logic.Quantify(op, []int{0}, yes()), yes(), "Quantify of True")
		tells(t, logic.Quantify(op, []int{0, 1}, and(x(1), exists(x(0), 0))), bind(op, []int{1}, and(x(1), exists(x(0), 0))), "Quantify of what is bound")
		tells(t, logic.Quantify(op, []int{0}, and(exists(x(0), 0), x(0))), bind(op, []int{0}, and(exists(x(0), 0), x(0))), "Quantify of what is bound, and free")
	}
	for op := range 256 {
		if uint8(op) != api.Exists && uint8(op) != api.Forall {
			for _, vars := range [][]int{nil, {3}, {77}, {-1}, {3, 9}} {
				tells(t, logic.Quantify(uint8(op), vars, f), no(), "Quantify by ", op, " of ", vars)
			}
		}
	}
}

func TestQuantifyMost(t *testing.T) {
	for _, op := range []uint8{api.Exists, api.Forall} {
		f := wide(mostNodes - 1)
		tells(t, logic.Quantify(op, []int{7, 6}, f), bind(op, []int{7, 6}, f), "Quantify of one node less than the most")
		f = wide(mostNodes)
		tells(t, logic.Quantify(op, []int{7}, f), no(), "Quantify of the most nodes")
		tells(t, logic.Quantify(op, []int{lastVar}, f), f, "Quantify of none, of the most nodes")
		f = denied(x(0), mostDepth-2)
		tells(t, logic.Quantify(op, []int{0}, f), bind(op, []int{0}, f), "Quantify, as deep as may be")
		f = denied(x(0), mostDepth-1)
		tells(t, logic.Quantify(op, []int{0}, f), no(), "Quantify of what is as deep as may be")
		tells(t, logic.Quantify(op, []int{1}, f), f, "Quantify of none, of what is as deep as may be")
	}
}

func TestP15_5Free(t *testing.T) {
	r := rand.New(rand.NewSource(155))
	for _, f := range many() {
		free := logic.Free(f)
		same(t, logic.Free(logic.Not(f)), free, "Free of Not of ", brief(f))
		for _, op := range []uint8{api.Exists, api.Forall} {
			is(t, len(logic.Free(logic.Quantify(op, free, f))), 0, "Free of what all is bound in, ", brief(f))
			vars := r.Perm(6)[:r.Intn(6)]
			left := slices.DeleteFunc(slices.Clone(free), func(v int) bool { return slices.Contains(vars, v) })
			same(t, logic.Free(logic.Quantify(op, vars, f)), left, "Free of what some is bound in, ", vars, ", ", brief(f))
		}
		switch f.Op {
		case api.And, api.Or, api.Not, api.Exists, api.Forall:
			all := map[int]int{}
			for _, kid := range f.Kids {
				for _, v := range logic.Free(kid) {
					all[v]++
				}
			}
			for _, v := range f.Vars {
				delete(all, v)
			}
			same(t, free, rising(all), "Free of kids of ", brief(f))
		}
	}
}

func TestP15_3Rename(t *testing.T) {
	f := and(le(1, 0, 2, 1, 3), exists(le(0, 0, 1, 5, 1), 5), not(x(2)))
	for _, c := range []struct {
		from, to []int
		want     formula
	}{
		{nil, nil, f},
		{[]int{}, nil, f},
		{[]int{0}, []int{0}, f},
		{[]int{0, 1, 2}, []int{0, 1, 2}, f},
		{[]int{9}, []int{5}, f},
		{[]int{9, 8}, []int{5, 0}, f},
		{[]int{0}, []int{7}, and(le(1, 1, 3, 7, 2), exists(le(0, 5, 1, 7, 1), 5), not(x(2)))},
		{[]int{0}, []int{lastVar}, and(le(1, 1, 3, lastVar, 2), exists(le(0, 5, 1, lastVar, 1), 5), not(x(2)))},
		{[]int{1}, []int{5}, and(le(1, 0, 2, 5, 3), exists(le(0, 0, 1, 5, 1), 5), not(x(2)))},
		{[]int{2}, []int{5}, and(le(1, 0, 2, 1, 3), exists(le(0, 0, 1, 5, 1), 5), not(x(5)))},
		// All at once, to and fro.
		{[]int{0, 1}, []int{1, 0}, and(le(1, 0, 3, 1, 2), exists(le(0, 1, 1, 5, 1), 5), not(x(2)))},
		{[]int{0, 1, 2}, []int{1, 2, 0}, and(le(1, 1, 2, 2, 3), exists(le(0, 1, 1, 5, 1), 5), not(x(0)))},
		{[]int{0, 3}, []int{3, 4}, and(le(1, 1, 3, 3, 2), exists(le(0, 3, 1, 5, 1), 5), not(x(2)))},
		// Two become one.
		{[]int{1}, []int{0}, and(le(1, 0, 5), exists(le(0, 0, 1, 5, 1), 5), not(x(2)))},
		{[]int{0, 1, 2}, []int{8, 8, 8}, and(le(1, 8, 5), exists(le(0, 5, 1, 8, 1), 5), not(x(8)))},
		// By the first place of one that stands twice.
		{[]int{0, 0, 0}, []int{6, 7, 8}, and(le(1, 1, 3, 6, 2), exists(le(0, 5, 1, 6, 1), 5), not(x(2)))},
		{[]int{2, 0, 2}, []int{4, 0, 0}, and(le(1, 0, 2, 1, 3), exists(le(0, 0, 1, 5, 1), 5), not(x(4)))},
		{[]int{0, 0}, []int{6, 5}, and(le(1, 1, 3, 6, 2), exists(le(0, 5, 1, 6, 1), 5), not(x(2)))},
		// Of one that is bound alone nothing becomes anything.
		{[]int{5}, []int{0}, f},
		{[]int{5, 2}, []int{6, 3}, and(le(1, 0, 2, 1, 3), exists(le(0, 0, 1, 5, 1), 5), not(x(3)))},
	} {
		renames(t, f, c.from, c.to, c.want)
	}
	for _, c := range [][2][]int{
		{{0}, {5}}, {{0, 1}, {5, 0}}, {{1, 0}, {0, 5}}, {{0, 0}, {5, 6}}, {{9, 0}, {9, 5}},
		{{0}, nil}, {nil, {0}}, {{0}, {7, 8}}, {{0, 1}, {7}}, {{9}, {7, 8}}, {{5, 5}, {7}},
		{{0}, {-1}}, {{0}, {mostVars}}, {{0}, {math.MinInt}}, {{0}, {math.MaxInt}}, {{9}, {-1}}, {{5}, {mostVars}}, {{0, 1}, {7, -1}}, {{0, 0}, {7, -1}}, {{0, 9}, {7, mostVars}},
		{{-1}, {7}}, {{mostVars}, {7}}, {{0, -1}, {7, 8}}, {{math.MinInt, 0}, {7, 8}},
	} {
		renamesNot(t, f, c[0], c[1])
	}
}

func TestP15_3RenameCaught(t *testing.T) {
	one := func(v int) formula { return le(0, v, 1) }
	for _, c := range []struct {
		f        formula
		from, to int
		want     formula
		may      bool
	}{
		{exists(one(0), 1), 0, 1, formula{}, false},
		{forall(one(0), 2, 3, 1), 0, 1, formula{}, false},
		{exists(exists(one(0), 2), 1), 0, 1, formula{}, false},
		{exists(exists(one(0), 1), 2), 0, 1, formula{}, false},
		{exists(exists(one(0), 2), 1), 0, 2, formula{}, false},
		{exists(exists(one(0), 2), 1), 0, 3, exists(exists(one(3), 2), 1), true},
		{and(exists(one(2), 1), one(0)), 0, 1, and(exists(one(2), 1), one(1)), true},
		{and(one(0), exists(or(one(2), one(0)), 1)), 0, 1, formula{}, false},
		// Where it is bound nearer it is not renamed, and so not caught.
		{exists(exists(one(0), 0), 1), 0, 1, exists(exists(one(0), 0), 1), true},
		{exists(exists(one(0), 1), 0), 0, 1, exists(exists(one(0), 1), 0), true},
		{exists(one(0), 1, 0), 0, 1, exists(one(0), 1, 0), true},
		{and(one(0), exists(one(0), 0, 1)), 0, 1, and(one(1), exists(one(0), 0, 1)), true},
		{and(exists(one(0), 0, 1), one(0)), 0, 1, and(exists(one(0), 0, 1), one(1)), true},
		{exists(and(one(0), exists(one(0), 0)), 1), 0, 1, formula{}, false},
		{exists(and(one(0), exists(one(0), 0)), 1), 0, 2, exists(and(one(2), exists(one(0), 0)), 1), true},
	} {
		if c.may {
			renames(t, c.f, []int{c.from}, []int{c.to}, c.want)
		} else {
			renamesNot(t, c.f, []int{c.from}, []int{c.to})
		}
	}
}

func TestP15_3RenameMany(t *testing.T) {
	r := rand.New(rand.NewSource(153))
	caught, done := 0, 0
	for _, f := range many() {
		for range 4 {
			n := r.Intn(5)
			from, to := make([]int, n), make([]int, n)
			becomes := map[int]int{}
			for k := range n {
				from[k], to[k] = r.Intn(6), r.Intn(8)
				if _, is := becomes[from[k]]; !is {
					becomes[from[k]] = to[k]
				}
			}
			want, may := modelRename(f, becomes)
			if !may {
				caught++
				renamesNot(t, f, from, to)
				continue
			}
			done++
			renames(t, f, from, to, want)
			free := map[int]int{}
			for _, v := range logic.Free(f) {
				if w, is := becomes[v]; is {
					v = w
				}
				free[v]++
			}
			g, _ := logic.Rename(f, from, to)
			for _, v := range logic.Free(g) {
				is(t, free[v] > 0, true, "Free has ", v, " of ", brief(f), " from ", from, " to ", to)
			}
		}
	}
	// Were there few, this would say little.
	is(t, caught > 100 && done > 1000, true, "so many are caught, and not: ", caught, ", ", done)
}

func TestP15_7Renamed(t *testing.T) {
	r := rand.New(rand.NewSource(157))
	for _, f := range many() {
		from := r.Perm(6)
		to := (*others(r))[:6]
		g, may := logic.Rename(f, from, to)
		is(t, may, true, "Rename of ", brief(f))
		renames(t, g, to, from, f)
		if len(logic.Free(f)) > 0 {
			is(t, logic.Same(f, g), false, "Same of what is renamed, ", brief(f))
		}
		// Bound, it is alike.
		is(t, logic.Alike(logic.Quantify(api.Exists, from, f), logic.Quantify(api.Exists, to, g)), true, "Alike of what is bound, ", brief(f))
	}
}

// answers are what all calls tell of a formula, as one list of formulas, atoms, and variables.
func answers(f formula) (l []formula, atoms []api.Atom, vars [][]int) {
	renamed, _ := logic.Rename(f, []int{0, 1}, []int{50, 51})
	unchanged, _ := logic.Rename(f, nil, nil)
	l = []formula{renamed, unchanged, logic.Not(f), logic.Not(not(f)), logic.And([]formula{f}), logic.Or([]formula{f}), logic.And([]formula{f, f}), logic.Or([]formula{f, x(1), f}), logic.And([]formula{and(f, f), f}), logic.Quantify(api.Exists, []int{0, 1}, f), logic.Quantify(api.Forall, []int{99}, f)}
	atoms = logic.Atoms(f)
	for _, a := range atoms {
		l = append(l, logic.Is(a))
	}
	return l, atoms, [][]int{logic.Free(f), logic.Bound(f)}
}

// TestR1Memory writes over what was told, and over what was handed in.
func TestR1Memory(t *testing.T) {
	l := many()
	a := div(3, 1, 0, 2, 1, 1)
	for _, f := range append(l[:300], and(a, a), exists(and(a, not(a), a), 0, 1), or(exists(a, 1, 2), exists(a, 1, 2))) {
		was := spell(f)
		first, atoms, vars := answers(f)
		told := fmt.Sprint(first, atoms, vars)
		is(t, spell(f), was, "what is handed in stays")
		// Each is written over by itself, and the others stay.
		for k, g := range first {
			text := spell(g)
			rest := fmt.Sprint(first[k+1:], atoms, vars)
			spoil(g)
			is(t, fmt.Sprint(first[k+1:], atoms, vars), rest, "what else is told, when ", text, " is written over")
			is(t, spell(f), was, "what is handed in, when ", text, " is written over")
		}
		for k := range atoms {
			rest := fmt.Sprint(atoms[k+1:], vars)
			spoilAtom(atoms[k])
			is(t, fmt.Sprint(atoms[k+1:], vars), rest, "atoms behind one that is written over")
		}
		for _, v := range vars {
			spoilList(v, 777)
		}
		is(t, spell(f), was, "what is handed in, when lists are written over")
		again, atoms, vars := answers(f)
		is(t, fmt.Sprint(again, atoms, vars), told, "what is told again")
		spoil(copied(f))
		g := copied(f)
		again, atoms, vars = answers(g)
		spoil(g)
		is(t, fmt.Sprint(again, atoms, vars), told, "what was told of a formula that is written over")
	}
}

// TestR1Lists writes over one list of an answer: the others stay.
func TestR1Lists(t *testing.T) {
	a := div(3, 1, 0, 2, 1, 1)
	f := exists(and(a, a), 0)
	for _, g := range []formula{logic.And([]formula{f, f, f}), logic.Or([]formula{f, f, f}), logic.And([]formula{and(f, f), f})} {
		spoil(g.Kids[0])
		tells(t, g.Kids[1], f, "the second kid")
		spoil(g.Kids[2])
		tells(t, g.Kids[1], f, "the second kid once more")
		spoil(g.Kids[1].Kids[0].Kids[0])
		tells(t, g.Kids[1].Kids[0].Kids[1], a, "the atom behind")
	}
	atoms := logic.Atoms(f)
	spoilAtom(atoms[0])
	tells(t, leaf(atoms[1]), a, "the second atom")
	vars, l := []int{0, 1}, []formula{f, x(1)}
	g := logic.Quantify(api.Exists, vars, x(0))
	h := logic.And(l)
	spoilList(vars, 5)
	spoilList(l, no())
	tells(t, g, exists(x(0), 0), "Quantify, and the variables written over")
	tells(t, h, and(f, x(1)), "And, and the list written over")
	from, to := []int{0}, []int{9}
	g, _ = logic.Rename(x(0), from, to)
	spoilList(from, 5)
	spoilList(to, 5)
	tells(t, g, x(9), "Rename, and the lists written over")
	vars = []int{3, 0, 0}
	logic.Quantify(api.Exists, vars, x(0))
	same(t, vars, []int{3, 0, 0}, "the variables handed in")
	vars = []int{5, 2, 4}
	f = exists(x(2), vars...)
	logic.May(f)
	logic.Bound(f)
	same(t, vars, []int{5, 2, 4}, "the Vars handed in")
}
