package atom_test

import (
	"cmp"
	"fmt"
	"maps"
	"math"
	"math/big"
	"math/rand"
	"slices"
	"testing"

	"alidade/api"
	"alidade/atom"
	"alidade/euclid"
	"alidade/rat"
	"alidade/term"
	"alidade/whole"
)

const (
	full = math.MaxUint32
	last = api.MaxVars - 1 // the greatest variable
)

// above, below are the whole numbers of a natural's limbs.
func above(n ...uint32) api.Int { return api.Int{Limbs: n} }
func below(n ...uint32) api.Int { return api.Int{Neg: true, Limbs: n} }

// longest is the greatest whole number of all.
func longest() api.Int { return above(slices.Repeat([]uint32{full}, api.MaxLong)...) }

// mixed is a whole number of so many limbs, of a fixed seed.
func mixed(long, seed int) api.Int {
	r := rand.New(rand.NewSource(int64(seed)<<32 + int64(long)))
	n := make([]uint32, long)
	for k := range n {
		n[k] = r.Uint32()
	}
	n[long-1] |= 1
	return api.Int{Neg: seed%2 == 1, Limbs: n}
}

// number is the whole number that one of math/big is.
func number(x *big.Int) api.Int {
	n, e := whole.Parse(x.String())
	if e != api.OK {
		panic("no whole number: " + x.String())
	}
	return n
}

// value is a whole number as math/big has it.
func value(x api.Int) *big.Int {
	v := new(big.Int)
	for _, w := range slices.Backward(x.Limbs) {
		v.Or(v.Lsh(v, 32), new(big.Int).SetUint64(uint64(w)))
	}
	if x.Neg {
		v.Neg(v)
	}
	return v
}

// fraction is a quotient as math/big has it.
func fraction(x api.Rat) *big.Rat { return new(big.Rat).SetFrac(value(x.Num), value(x.Den)) }

// of is the quotient of two numbers.
func of(num, den int) api.Rat {
	x, e := rat.Make(whole.Of(num), whole.Of(den))
	if e != api.OK {
		panic("no quotient")
	}
	return x
}

// ints are whole numbers, as values.
func ints(l ...int) []api.Rat {
	var values []api.Rat
	for _, n := range l {
		values = append(values, rat.Int(n))
	}
	return values
}

// linear is the term of a number, and of variables, each with its Coef behind it; they have to rise.
func linear(add int, l ...int) api.Term {
	t := api.Term{Add: whole.Of(add)}
	for ; len(l) > 0; l = l[2:] {
		t.Parts = append(t.Parts, api.Part{Var: l[0], Coef: whole.Of(l[1])})
	}
	return t
}

// le, lt, eq, div say something of such a term.
func le(add int, l ...int) api.Atom { return api.Atom{Kind: api.Le, Term: linear(add, l...)} }
func lt(add int, l ...int) api.Atom { return api.Atom{Kind: api.Lt, Term: linear(add, l...)} }
func eq(add int, l ...int) api.Atom { return api.Atom{Kind: api.Eq, Term: linear(add, l...)} }
func div(mod, add int, l ...int) api.Atom {
	return api.Atom{Kind: api.Div, Term: linear(add, l...), Mod: whole.Of(mod)}
}

// name tells an atom briefly.
func name(a api.Atom) string {
	s := fmt.Sprintf("kind %d, mod %s:", a.Kind, numberName(a.Mod))
	for k, p := range a.Term.Parts {
		if k > 5 {
			s += fmt.Sprintf(" .. %d parts", len(a.Term.Parts))
			break
		}
		s += fmt.Sprintf(" %s of %d,", numberName(p.Coef), p.Var)
	}
	return s + " " + numberName(a.Term.Add)
}

// numberName tells a whole number briefly.
func numberName(x api.Int) string {
	sign := ""
	if x.Neg {
		sign = "-"
	}
	if n := x.Limbs; len(n) > 3 {
		return fmt.Sprintf("%s[%d %d .. %d, %d limbs]", sign, n[0], n[1], n[len(n)-1], len(n))
	}
	return fmt.Sprint(sign, x.Limbs)
}

// sameInt, samePart, sameAtom tell whether two are the same, limb by limb.
func sameInt(a, b api.Int) bool   { return a.Neg == b.Neg && slices.Equal(a.Limbs, b.Limbs) }
func samePart(p, q api.Part) bool { return p.Var == q.Var && sameInt(p.Coef, q.Coef) }
func sameAtom(a, b api.Atom) bool {
	return a.Kind == b.Kind && slices.EqualFunc(a.Term.Parts, b.Term.Parts, samePart) && sameInt(a.Term.Add, b.Term.Add) && sameInt(a.Mod, b.Mod)
}

// equal complains unless two are the same atom.
func equal(t *testing.T, got, want api.Atom, what ...any) {
	t.Helper()
	if !sameAtom(got, want) {
		t.Errorf("%s: got %s, want %s", fmt.Sprint(what...), name(got), name(want))
	}
}

// isSo complains unless something is what is wanted.
func isSo[T comparable](t *testing.T, got, want T, what ...any) {
	t.Helper()
	if got != want {
		t.Errorf("%s: got %v, want %v", fmt.Sprint(what...), got, want)
	}
}

// canon complains unless the canonical form is so.
func canon(t *testing.T, logic uint8, a, want api.Atom, wantTruth uint8) {
	t.Helper()
	got, truth, e := atom.Canon(logic, a)
	what := fmt.Sprint("Canon, logic ", logic, ", of ", name(a))
	isSo(t, e, api.OK, what)
	isSo(t, truth, wantTruth, what)
	equal(t, got, want, what)
}

// refusedCanon, refusedDeny complain unless there is an error, and nothing beside it.
func refusedCanon(t *testing.T, logic uint8, a api.Atom, want api.Errno) {
	t.Helper()
	got, truth, e := atom.Canon(logic, a)
	what := fmt.Sprint("Canon, logic ", logic, ", of ", name(a))
	isSo(t, e, want, what)
	isSo(t, truth, 0, what)
	equal(t, got, api.Atom{}, what)
}

func refusedDeny(t *testing.T, logic uint8, a api.Atom, k int, want api.Errno) {
	t.Helper()
	got, e := atom.Deny(logic, a, k)
	what := fmt.Sprint("Deny, logic ", logic, ", number ", k, ", of ", name(a))
	isSo(t, e, want, what)
	equal(t, got, api.Atom{}, what)
}

// deny complains unless the denials, all of them, are these.
func deny(t *testing.T, logic uint8, a api.Atom, want ...api.Atom) {
	t.Helper()
	for k, b := range want {
		got, e := atom.Deny(logic, a, k)
		isSo(t, e, api.OK, "Deny, logic ", logic, ", number ", k, ", of ", name(a))
		equal(t, got, b, "Deny, logic ", logic, ", number ", k, ", of ", name(a))
	}
	refusedDeny(t, logic, a, len(want), api.ErrNone)
	refusedDeny(t, logic, a, -1, api.ErrNone)
}

// few are atoms of two variables, of all kinds, with numbers from short lists.
func few() []api.Atom {
	var l []api.Atom
	for _, x := range []int{-6, -3, -1, 0, 2, 4} {
		for _, y := range []int{-4, 0, 3, 6} {
			for _, add := range []int{-7, -6, -2, 0, 1, 3, 4, 8} {
				s, _ := term.Of([]api.Part{{Var: 0, Coef: whole.Of(x)}, {Var: 1, Coef: whole.Of(y)}}, whole.Of(add))
				for kind := range api.Div {
					l = append(l, api.Atom{Kind: kind, Term: s})
				}
				for _, mod := range []int{1, 2, 3, 4, 6, 12} {
					l = append(l, api.Atom{Kind: api.Div, Term: s, Mod: whole.Of(mod)})
				}
			}
		}
	}
	return l
}

// fewer are some of them, of all kinds, and with all those numbers.
func fewer() []api.Atom {
	var l []api.Atom
	for k, a := range few() {
		if k%5 == 0 {
			l = append(l, a)
		}
	}
	return l
}

// terms are others, with edges of variables and of limbs, some of them longer.
func terms() []api.Term {
	l := []api.Term{linear(0, last, 1), linear(-1, 0, 1, last, -1), linear(7, last-1, 6, last, 9), linear(math.MinInt, 3, math.MaxInt), linear(full, 0, -full, 1, 2*full), linear(math.MaxInt), linear(math.MinInt), linear(-9, 0, -30, 1, 42, 7, 66)}
	long := api.Term{Add: mixed(9, 9)}
	for k := range 12 {
		long.Parts = append(long.Parts, api.Part{Var: 3 * k, Coef: mixed(1+k%5, k)})
	}
	common := mixed(3, 78)
	times := func(n int) api.Int { return whole.Mul(common, whole.Of(n)) }
	l = append(l, long, api.Term{Parts: long.Parts[1:3]})
	return append(l, api.Term{Parts: []api.Part{{Var: 1, Coef: times(-4)}, {Var: 3, Coef: times(10)}}, Add: times(6)}, api.Term{Parts: []api.Part{{Var: 1, Coef: times(4)}, {Var: 3, Coef: times(10)}}, Add: times(-5)}, api.Term{Parts: []api.Part{{Var: 0, Coef: times(-3)}}, Add: whole.Add(times(7), whole.Of(1))})
}

// many are atoms of these, of all kinds.
func many() []api.Atom {
	var l []api.Atom
	for _, s := range terms() {
		for kind := range api.Div {
			l = append(l, api.Atom{Kind: kind, Term: s})
		}
		for _, mod := range []api.Int{whole.Of(1), whole.Of(6), whole.Of(full), above(0, 1), mixed(3, 78), whole.Mul(mixed(3, 78), whole.Of(14)), mixed(12, 4)} {
			l = append(l, api.Atom{Kind: api.Div, Term: s, Mod: mod})
		}
	}
	return l
}

// all are both of them; some are fewer, of all kinds.
func all() []api.Atom { return slices.Concat(few(), many()) }
func some() []api.Atom {
	return append(many(), api.Atom{}, le(-1), lt(0), eq(1), eq(0), div(3, 6), div(5, -1), le(4, 0, 2), lt(-3, 0, -2, 1, 4), eq(3, 0, -3, 1, 6), eq(1, 1, 2), div(4, 2, 0, 6, 1, 2), div(3, 1, 0, 6, 1, -9), div(1, 1, 0, 1))
}

// wrongNumbers are whole numbers that may not be.
func wrongNumbers() []api.Int {
	tooLong := slices.Repeat([]uint32{1}, api.MaxLong+1)
	return []api.Int{{Neg: true}, {Neg: true, Limbs: []uint32{}}, above(0), below(0), above(1, 0), below(7, 0, 0), above(tooLong...), below(tooLong...)}
}

// wrongTerms are terms that may not be, for each reason.
func wrongTerms() []api.Term {
	l := []api.Term{linear(1, -1, 1), linear(1, math.MinInt, 1), linear(0, api.MaxVars, 1), linear(0, 0, 1, math.MaxInt, 2), linear(0, 1, 1, 1, 1), linear(0, 1, 1, 0, 1), linear(5, 0, 1, 2, 1, 1, 1), linear(3, 1, 0), linear(0, 0, 2, 1, 0)}
	for _, n := range wrongNumbers() {
		l = append(l, api.Term{Add: n}, api.Term{Parts: linear(0, 0, 1, 1, 2).Parts, Add: n}, api.Term{Parts: []api.Part{{Var: 0, Coef: n}}}, api.Term{Parts: []api.Part{{Var: 0, Coef: whole.Of(3)}, {Var: 1, Coef: n}}, Add: whole.Of(1)})
	}
	return l
}

// wrong are atoms that may not be, for each reason.
func wrong() []api.Atom {
	var l []api.Atom
	for _, kind := range []uint8{api.Div + 1, 7, math.MaxUint8} {
		l = append(l, api.Atom{Kind: kind}, api.Atom{Kind: kind, Term: linear(1, 0, 2)}, api.Atom{Kind: kind, Term: linear(1, 0, 2), Mod: whole.Of(3)})
	}
	for _, s := range wrongTerms() {
		l = append(l, api.Atom{Kind: api.Le, Term: s}, api.Atom{Kind: api.Lt, Term: s}, api.Atom{Kind: api.Eq, Term: s}, api.Atom{Kind: api.Div, Term: s, Mod: whole.Of(3)})
	}
	for _, s := range []api.Term{{}, linear(-5), linear(2, 0, 4)} {
		for kind := range api.Div {
			for _, mod := range append(wrongNumbers(), whole.Of(1), whole.Of(3), whole.Of(-1), mixed(3, 2)) {
				l = append(l, api.Atom{Kind: kind, Term: s, Mod: mod})
			}
		}
		for _, mod := range append(wrongNumbers(), whole.Of(0), whole.Of(-1), whole.Of(-4), below(0, 1)) {
			l = append(l, api.Atom{Kind: api.Div, Term: s, Mod: mod})
		}
	}
	return l
}

// wrongValues are quotients that may not be.
func wrongValues() []api.Rat {
	one := whole.Of(1)
	l := []api.Rat{{}, {Num: one}, {Num: one, Den: whole.Of(-1)}, {Num: whole.Of(2), Den: whole.Of(4)}, {Den: whole.Of(7)}}
	for _, n := range wrongNumbers() {
		l = append(l, api.Rat{Num: n, Den: one}, api.Rat{Num: one, Den: n})
	}
	return l
}

// wholes, quotients are lists of values, of both logics.
func wholes() [][]api.Rat {
	l := [][]api.Rat{nil, ints(5), {rat.Of(mixed(4, 3)), rat.Of(mixed(7, 8)), rat.Int(2), rat.Of(mixed(2, 5))}, ints(1, math.MinInt, 7, math.MaxInt)}
	for x := -7; x <= 7; x++ {
		for y := -6; y <= 6; y++ {
			l = append(l, ints(x, y))
		}
	}
	return l
}

func quotients() [][]api.Rat {
	l := append(wholes()[:4], []api.Rat{of(1, 2)}, []api.Rat{of(-full, 7), of(math.MaxInt, 6), of(1, 3), of(5, math.MaxInt)})
	var grid []api.Rat
	for _, den := range []int{1, 2, 3, 12} {
		for _, num := range []int{-17, -5, 0, 1, 8} {
			grid = append(grid, of(num, den))
		}
	}
	for _, x := range grid {
		for _, y := range grid {
			l = append(l, []api.Rat{x, y})
		}
	}
	return l
}

// valuesOf are the values of a logic.
func valuesOf(logic uint8) [][]api.Rat {
	if logic == api.Whole {
		return wholes()
	}
	return quotients()
}

// denialsOf are all denials of an atom that has not many.
func denialsOf(t *testing.T, logic uint8, a api.Atom) []api.Atom {
	var l []api.Atom
	for {
		b, e := atom.Deny(logic, a, len(l))
		if e == api.ErrNone {
			return l
		}
		if e != api.OK {
			t.Fatal("Deny:", e, name(a))
		}
		l = append(l, b)
	}
}

func TestExamples(t *testing.T) {
	canon(t, api.Real, le(4, 0, 2), le(2, 0, 1), atom.Open)
	canon(t, api.Whole, le(3, 0, 2), le(2, 0, 1), atom.Open)
	canon(t, api.Whole, lt(3, 0, 2), le(2, 0, 1), atom.Open)
	canon(t, api.Real, eq(3, 0, 2), eq(3, 0, 2), atom.Open)
	canon(t, api.Whole, eq(3, 0, 2), api.Atom{}, atom.No)
	canon(t, api.Real, eq(6, 0, -3), eq(-2, 0, 1), atom.Open)
	canon(t, api.Whole, eq(6, 0, -3), eq(-2, 0, 1), atom.Open)
	canon(t, api.Whole, div(4, 2, 0, 6), div(2, 1, 0, 1), atom.Open)
	canon(t, api.Whole, div(4, 1, 0, 2), api.Atom{}, atom.No)
	deny(t, api.Whole, div(3, 0, 0, 1), div(3, 1, 0, 1), div(3, 2, 0, 1))
	if atom.Holds(div(3, 0, 0, 1), []api.Rat{of(1, 2)}) {
		t.Error("Holds of 3 | x by 1/2")
	}
}

// P10.1: what a canonical form is, by its numbers.
func TestP10_1Truths(t *testing.T) {
	isSo(t, atom.Open, 0, "Open")
	isSo(t, atom.Yes, 1, "Yes")
	isSo(t, atom.No, 2, "No")
}

// P10.1: which atoms may be, and in which logic.
func TestP10_1May(t *testing.T) {
	right := append(all(), api.Atom{Term: api.Term{Parts: []api.Part{}, Add: above()}, Mod: above([]uint32{}...)}, api.Atom{Kind: api.Lt, Term: api.Term{Add: longest()}}, api.Atom{Kind: api.Div, Mod: longest()})
	for _, a := range right {
		isSo(t, atom.May(a), true, "May of ", name(a))
		isSo(t, atom.In(api.Whole, a), true, "In, Whole, of ", name(a))
		isSo(t, atom.In(api.Real, a), a.Kind != api.Div, "In, Real, of ", name(a))
		for _, logic := range []uint8{2, 3, math.MaxUint8} {
			isSo(t, atom.In(logic, a), false, "In, no logic, of ", name(a))
		}
	}
	for _, a := range wrong() {
		isSo(t, atom.May(a), false, "May of ", name(a))
		for _, logic := range []uint8{api.Real, api.Whole, 2, math.MaxUint8} {
			isSo(t, atom.In(logic, a), false, "In, logic ", logic, ", of ", name(a))
		}
	}
}

// P10.1: a term without parts is true, or false, in both logics, as it is.
func TestP10_1CanonNoParts(t *testing.T) {
	for _, a := range []api.Atom{{}, le(0), le(-5), lt(-1), lt(math.MinInt), eq(0), div(1, 7), div(3, 0), div(3, -6), {Kind: api.Div, Term: api.Term{Add: mixed(3, 3)}, Mod: whole.Abs(mixed(3, 3))}} {
		canon(t, api.Whole, a, api.Atom{}, atom.Yes)
		if a.Kind != api.Div {
			canon(t, api.Real, a, api.Atom{}, atom.Yes)
		}
	}
	for _, a := range []api.Atom{le(1), le(math.MaxInt), lt(0), lt(3), eq(-2), eq(2), div(3, 7), div(3, -1), div(math.MaxInt, 1)} {
		canon(t, api.Whole, a, api.Atom{}, atom.No)
		if a.Kind != api.Div {
			canon(t, api.Real, a, api.Atom{}, atom.No)
		}
	}
}

// P10.1: over the quotients, row by row of S2's table.
func TestP10_1CanonReal(t *testing.T) {
	for _, c := range []struct {
		of, want api.Atom
		truth    uint8
	}{
		{of: le(3, 0, 2), want: le(3, 0, 2)}, {of: le(-9, 0, 6, 1, -12), want: le(-3, 0, 2, 1, -4)}, {of: le(0, 3, -8), want: le(0, 3, -1)}, {of: le(4, 0, 6, 1, 9), want: le(4, 0, 6, 1, 9)},
		{of: lt(3, 0, 2), want: lt(3, 0, 2)}, {of: lt(10, 0, -5, 2, 15), want: lt(2, 0, -1, 2, 3)}, {of: lt(0, last, 7), want: lt(0, last, 1)}, {of: lt(-6, 0, -6), want: lt(-1, 0, -1)},
		{of: eq(0, 0, 5), want: eq(0, 0, 1)}, {of: eq(0, 0, -5), want: eq(0, 0, 1)}, {of: eq(3, 0, -2), want: eq(-3, 0, 2)}, {of: eq(8, 0, 6, 1, -4), want: eq(4, 0, 3, 1, -2)}, {of: eq(8, 0, -6, 1, 4), want: eq(-4, 0, 3, 1, -2)}, {of: eq(1, 2, -6, 9, 4), want: eq(-1, 2, 6, 9, -4)},
	} {
		canon(t, api.Real, c.of, c.want, c.truth)
	}
}

// P10.1: over the whole numbers, likewise.
func TestP10_1CanonWhole(t *testing.T) {
	for _, c := range []struct {
		of, want api.Atom
		truth    uint8
	}{
		{of: le(-3, 0, 2), want: le(-1, 0, 1)}, {of: le(4, 0, 2), want: le(2, 0, 1)}, {of: le(-9, 0, 6, 1, -12), want: le(-1, 0, 1, 1, -2)}, {of: le(7, 0, -6, 1, 9), want: le(3, 0, -2, 1, 3)}, {of: le(1, 0, 6, 1, 35), want: le(1, 0, 6, 1, 35)}, {of: le(0, 3, -8), want: le(0, 3, -1)},
		{of: lt(-3, 0, 2), want: le(-1, 0, 1)}, {of: lt(4, 0, 2), want: le(3, 0, 1)}, {of: lt(-4, 0, 2), want: le(-1, 0, 1)}, {of: lt(0, 0, 3), want: le(1, 0, 1)}, {of: lt(-1, 0, 3), want: le(0, 0, 1)}, {of: lt(5, 0, -1), want: le(6, 0, -1)}, {of: lt(-7, 0, -6, 1, 9), want: le(-2, 0, -2, 1, 3)},
		{of: eq(0, 0, -5), want: eq(0, 0, 1)}, {of: eq(3, 0, -2), truth: atom.No}, {of: eq(8, 0, -6, 1, 4), want: eq(-4, 0, 3, 1, -2)}, {of: eq(9, 0, -6, 1, 4), truth: atom.No}, {of: eq(-9, 0, 6, 1, 35), want: eq(-9, 0, 6, 1, 35)},
		{of: div(1, 1, 0, 1), truth: atom.Yes}, {of: div(2, 4, 0, 6), truth: atom.Yes}, {of: div(2, 3, 0, 6, 1, 4), truth: atom.No}, {of: div(3, 0, 0, 1), want: div(3, 0, 0, 1)}, {of: div(3, -1, 0, -1), want: div(3, 2, 0, 2)},
		{of: div(5, 12, 0, 10, 1, -3), want: div(5, 2, 1, 2)}, {of: div(12, 14, 0, 16, 1, -6), want: div(6, 1, 0, 2, 1, 3)}, {of: div(12, 15, 0, 16, 1, -6), truth: atom.No}, {of: div(6, 9, 0, 12, 1, 9), want: div(2, 1, 1, 1)}, {of: div(4, 4, 0, 8, 1, 2), want: div(2, 0, 1, 1)}, {of: div(7, 0, 0, 14, last, -7), truth: atom.Yes}, {of: div(6, 4, 0, 4), want: div(3, 2, 0, 2)},
	} {
		canon(t, api.Whole, c.of, c.want, c.truth)
	}
}

// sum is a term as math/big has it: each variable's Coef, that are not 0, and the number as that of the variable -1.
type sum map[int]*big.Int

// sumOf is a term so.
func sumOf(t api.Term) sum {
	s := sum{-1: value(t.Add)}
	for _, p := range t.Parts {
		s[p.Var] = value(p.Coef)
	}
	return s
}

// saying says something of it.
func (s sum) saying(kind uint8, mod *big.Int) api.Atom {
	a := api.Atom{Kind: kind, Mod: number(mod)}
	for _, v := range slices.Sorted(maps.Keys(s)) {
		switch {
		case v < 0:
			a.Term.Add = number(s[v])
		case s[v].Sign() != 0:
			a.Term.Parts = append(a.Term.Parts, api.Part{Var: v, Coef: number(s[v])})
		}
	}
	return a
}

// common is the greatest common divisor of a number, and of all Coefs.
func (s sum) common(g *big.Int) *big.Int {
	for v, n := range s {
		if v >= 0 {
			g = new(big.Int).GCD(nil, nil, new(big.Int).Abs(g), new(big.Int).Abs(n))
		}
	}
	return g
}

// by divides all Coefs by a number, and the number, rounded up.
func (s sum) by(g *big.Int) {
	for v, n := range s {
		q, r := new(big.Int).QuoRem(n, g, new(big.Int))
		if v < 0 && r.Sign()*g.Sign() > 0 {
			q.Add(q, big.NewInt(1))
		}
		s[v] = q
	}
}

// expected is the canonical form as math/big works it out, by S2's table.
func expected(logic uint8, a api.Atom) (api.Atom, uint8) {
	s, mod, none := sumOf(a.Term), value(a.Mod), new(big.Int)
	truth := map[bool]uint8{true: atom.Yes, false: atom.No}
	switch sign := s[-1].Sign(); {
	case len(s) > 1:
	case a.Kind == api.Le:
		return api.Atom{}, truth[sign <= 0]
	case a.Kind == api.Lt:
		return api.Atom{}, truth[sign < 0]
	case a.Kind == api.Eq:
		return api.Atom{}, truth[sign == 0]
	default:
		return api.Atom{}, truth[new(big.Int).Mod(s[-1], mod).Sign() == 0]
	}
	g := s.common(none)
	all := new(big.Int).GCD(nil, nil, g, new(big.Int).Abs(s[-1]))
	switch {
	case a.Kind == api.Div:
		for v, n := range s {
			s[v] = new(big.Int).Mod(n, mod)
		}
		g = s.common(mod)
		if new(big.Int).Rem(s[-1], g).Sign() != 0 {
			return api.Atom{}, atom.No
		}
		s.by(g)
		if mod.Quo(mod, g).Cmp(big.NewInt(1)) == 0 {
			return api.Atom{}, atom.Yes
		}
		return s.saying(api.Div, mod), atom.Open
	case a.Kind == api.Eq:
		if logic == api.Whole && all.Cmp(g) != 0 {
			return api.Atom{}, atom.No
		}
		if a.Term.Parts[0].Coef.Neg {
			all.Neg(all)
		}
		s.by(all)
	case logic == api.Real:
		s.by(all)
	default:
		if a.Kind == api.Lt {
			s[-1].Add(s[-1], big.NewInt(1))
		}
		s.by(g)
		return s.saying(api.Le, none), atom.Open
	}
	return s.saying(a.Kind, none), atom.Open
}

// P10.1, P10.3: canonical forms of all kinds of atoms, against math/big; made canonical once more they are the same.
func TestP10_1Canon(t *testing.T) {
	for _, a := range all() {
		for logic := range api.Whole + 1 {
			if !atom.In(logic, a) {
				continue
			}
			want, truth := expected(logic, a)
			canon(t, logic, a, want, truth)
			if truth == atom.Open {
				b, _, _ := atom.Canon(logic, a)
				canon(t, logic, b, want, atom.Open)
			}
		}
	}
}

// P10.3: a canonical form holds by just those values by which the atom does; Yes by all, No by none.
func TestP10_3Same(t *testing.T) {
	for logic := range api.Whole + 1 {
		lists := valuesOf(logic)
		for _, a := range all() {
			if !atom.In(logic, a) {
				continue
			}
			b, truth, _ := atom.Canon(logic, a)
			for _, l := range lists {
				if want := truth == atom.Yes || truth == atom.Open && atom.Holds(b, l); atom.Holds(a, l) != want {
					t.Error("its canonical form holds otherwise: logic", logic, "truth", truth, name(a))
				}
			}
		}
	}
}

// Canon's errors: no such logic, ahead of an atom that may not be, ahead of one that may not be in the logic.
func TestCanonErrors(t *testing.T) {
	for _, logic := range []uint8{2, 3, math.MaxUint8} {
		for _, a := range append(wrong(), some()...) {
			refusedCanon(t, logic, a, api.ErrArg)
		}
	}
	for _, a := range wrong() {
		refusedCanon(t, api.Real, a, api.ErrForm)
		refusedCanon(t, api.Whole, a, api.ErrForm)
	}
	for _, a := range some() {
		if a.Kind == api.Div {
			refusedCanon(t, api.Real, a, api.ErrSort)
		}
	}
}

// P10.1: denials, in their row, not made canonical.
func TestP10_1Deny(t *testing.T) {
	deny(t, api.Real, le(4, 0, 2), lt(-4, 0, -2))
	deny(t, api.Real, lt(4, 0, 2, 3, -6), le(-4, 0, -2, 3, 6))
	deny(t, api.Real, eq(4, 0, -2), lt(4, 0, -2), lt(-4, 0, 2))
	deny(t, api.Real, eq(0), lt(0), lt(0))
	deny(t, api.Real, le(-3), lt(3))
	deny(t, api.Whole, le(4, 0, 2), le(-3, 0, -2))
	deny(t, api.Whole, le(-1, 0, 3, 1, -3), le(2, 0, -3, 1, 3))
	deny(t, api.Whole, lt(4, 0, 2), le(-4, 0, -2))
	deny(t, api.Whole, eq(4, 0, 2), le(5, 0, 2), le(-3, 0, -2))
	deny(t, api.Whole, eq(-1), le(0), le(2))
	deny(t, api.Whole, le(0), le(1))
	deny(t, api.Whole, div(1, 0, 0, 1))
	deny(t, api.Whole, div(2, 7, 0, 4), div(2, 8, 0, 4))
	deny(t, api.Whole, div(4, -2, 0, 6, 1, -1), div(4, -1, 0, 6, 1, -1), div(4, 0, 0, 6, 1, -1), div(4, 1, 0, 6, 1, -1))
	deny(t, api.Whole, div(3, 1), div(3, 2), div(3, 3))
	for _, a := range all() {
		turned := sumOf(a.Term)
		for v, n := range turned {
			turned[v] = n.Neg(n)
		}
		none := new(big.Int)
		switch a.Kind {
		case api.Le:
			deny(t, api.Real, a, turned.saying(api.Lt, none))
			turned[-1].Add(turned[-1], big.NewInt(1))
			deny(t, api.Whole, a, turned.saying(api.Le, none))
		case api.Lt:
			deny(t, api.Real, a, turned.saying(api.Le, none))
			deny(t, api.Whole, a, turned.saying(api.Le, none))
		case api.Eq:
			deny(t, api.Real, a, api.Atom{Kind: api.Lt, Term: a.Term}, turned.saying(api.Lt, none))
			turned[-1].Add(turned[-1], big.NewInt(1))
			more := api.Term{Parts: a.Term.Parts, Add: whole.Add(a.Term.Add, whole.Of(1))}
			deny(t, api.Whole, a, api.Atom{Kind: api.Le, Term: more}, turned.saying(api.Le, none))
		}
	}
}

// P10.1: a Div has as many denials as Mod less 1, also where that is no int any more.
func TestP10_1DenyMany(t *testing.T) {
	most := whole.Of(math.MaxInt)
	for _, c := range []struct {
		mod api.Int
		has []int
		not []int
	}{
		{whole.Of(6), []int{0, 1, 2, 3, 4}, []int{-1, math.MinInt, 5, 6, 7, math.MaxInt}},
		{whole.Of(full), []int{0, full - 2}, []int{full - 1, full, math.MaxInt}},
		{most, []int{0, math.MaxInt - 2}, []int{-1, math.MaxInt - 1, math.MaxInt}},
		{whole.Add(most, whole.Of(1)), []int{math.MaxInt - 1}, []int{math.MaxInt}},
		{whole.Add(most, whole.Of(2)), []int{0, math.MaxInt - 1, math.MaxInt}, []int{-1, math.MinInt}},
		{mixed(12, 4), []int{0, 5, math.MaxInt}, []int{-1, math.MinInt}},
		{longest(), []int{0, math.MaxInt}, []int{-1}},
	} {
		a := api.Atom{Kind: api.Div, Term: linear(math.MaxInt, 0, 5, 9, -2), Mod: c.mod}
		for _, k := range c.has {
			want := sumOf(a.Term)
			want[-1].Add(want[-1], new(big.Int).Add(big.NewInt(int64(k)), big.NewInt(1)))
			got, e := atom.Deny(api.Whole, a, k)
			isSo(t, e, api.OK, "Deny, number ", k, ", of Mod ", numberName(c.mod))
			b := want.saying(api.Div, big.NewInt(1))
			b.Mod = c.mod
			equal(t, got, b, "Deny, number ", k, ", of Mod ", numberName(c.mod))
		}
		for _, k := range c.not {
			refusedDeny(t, api.Whole, a, k, api.ErrNone)
		}
	}
}

// P10.4: by whatever values of the logic just one of an atom and its denials holds.
func TestP10_4Denied(t *testing.T) {
	small := whole.Of(20)
	for logic := range api.Whole + 1 {
		lists := valuesOf(logic)
		for _, a := range all() {
			if !atom.In(logic, a) || whole.Cmp(a.Mod, small) > 0 {
				continue
			}
			l := append(denialsOf(t, logic, a), a)
			for _, values := range lists {
				holding := 0
				for _, b := range l {
					if atom.Holds(b, values) {
						holding++
					}
				}
				if holding != 1 {
					t.Error("so many of an atom and its denials hold:", holding, "logic", logic, name(a))
				}
			}
		}
	}
}

// Deny's errors: as Canon's, and then that there is no such denial.
func TestDenyErrors(t *testing.T) {
	for _, k := range []int{0, -1, 1, 2, math.MinInt, math.MaxInt} {
		for _, logic := range []uint8{2, 3, math.MaxUint8} {
			for _, a := range append(wrong(), some()...) {
				refusedDeny(t, logic, a, k, api.ErrArg)
			}
		}
		for _, a := range wrong() {
			refusedDeny(t, api.Real, a, k, api.ErrForm)
			refusedDeny(t, api.Whole, a, k, api.ErrForm)
		}
		for _, a := range some() {
			if a.Kind == api.Div {
				refusedDeny(t, api.Real, a, k, api.ErrSort)
			}
		}
	}
	for _, k := range []int{-1, 2, 3, math.MinInt, math.MaxInt} {
		for _, a := range []api.Atom{le(1, 0, 1), lt(1, 0, 1), eq(1, 0, 1), {}, eq(0)} {
			refusedDeny(t, api.Real, a, k, api.ErrNone)
			refusedDeny(t, api.Whole, a, k, api.ErrNone)
		}
	}
}

// valueBy is its value as math/big has it, by values of variables.
func (s sum) valueBy(values []api.Rat) *big.Rat {
	x := new(big.Rat).SetInt(s[-1])
	for v, n := range s {
		if v >= 0 && v < len(values) && rat.May(values[v]) {
			x.Add(x, new(big.Rat).Mul(new(big.Rat).SetInt(n), fraction(values[v])))
		}
	}
	return x
}

// trueBy tells whether an atom is true by values, as math/big has it.
func trueBy(a api.Atom, values []api.Rat) bool {
	x := sumOf(a.Term).valueBy(values)
	switch a.Kind {
	case api.Le:
		return x.Sign() <= 0
	case api.Lt:
		return x.Sign() < 0
	case api.Eq:
		return x.Sign() == 0
	}
	return x.Quo(x, new(big.Rat).SetInt(value(a.Mod))).IsInt()
}

// P10.2: whether an atom is true by values.
func TestP10_2Holds(t *testing.T) {
	l := append(quotients(), wholes()...)
	for k, x := range wrongValues() {
		l = append(l, []api.Rat{x}, []api.Rat{of(k, 3), x}, []api.Rat{x, rat.Int(k)})
	}
	for _, a := range all() {
		for _, values := range l {
			if want := trueBy(a, values); atom.Holds(a, values) != want {
				t.Error("Holds: want", want, "of", name(a), "by so many values:", len(values))
			}
		}
	}
	for _, c := range []struct {
		a       api.Atom
		yes, no [][]api.Rat
	}{
		{le(-1, 0, 2), [][]api.Rat{nil, ints(0), {of(1, 2)}, ints(-7, 9)}, [][]api.Rat{ints(1), {of(3, 5)}}},
		{lt(-1, 0, 2), [][]api.Rat{nil, ints(0), {of(1, 3)}}, [][]api.Rat{ints(1), {of(1, 2)}}},
		{eq(-1, 0, 2), [][]api.Rat{{of(1, 2)}}, [][]api.Rat{nil, ints(1), {of(-1, 2)}}},
		{div(3, 0, 0, 1), [][]api.Rat{nil, ints(0), ints(3), ints(-6)}, [][]api.Rat{ints(1), ints(-1), ints(4), {of(1, 2)}, {of(3, 2)}, {of(6, 5)}}},
		{div(1, 0, 0, 1), [][]api.Rat{ints(7)}, [][]api.Rat{{of(1, 2)}}},
		{div(2, 0, 0, 4), [][]api.Rat{ints(1), {of(1, 2)}, {of(-3, 2)}}, [][]api.Rat{{of(1, 4)}, {of(1, 3)}}},
	} {
		for _, values := range c.yes {
			isSo(t, atom.Holds(c.a, values), true, "Holds of ", name(c.a))
		}
		for _, values := range c.no {
			isSo(t, atom.Holds(c.a, values), false, "Holds of ", name(c.a))
		}
	}
}

// P10.2: of an atom that may not be nothing holds, nothing is put, renamed, or the same, and it has no place in the row.
func TestWrong(t *testing.T) {
	for _, a := range wrong() {
		for _, values := range [][]api.Rat{nil, ints(0), ints(-9, -9, -9), ints(9, 9, 9), {of(1, 2), of(-1, 2)}} {
			isSo(t, atom.Holds(a, values), false, "Holds of ", name(a))
		}
		for _, v := range []int{0, 1, 5, last, -1, api.MaxVars} {
			equal(t, atom.Put(a, v, term.Var(3)), api.Atom{}, "Put of ", v, " in ", name(a))
		}
		for _, l := range [][]int{nil, {0}, {0, 1}, {1, 7}} {
			got, is := atom.Rename(a, l, l)
			isSo(t, is, false, "Rename of ", name(a))
			equal(t, got, api.Atom{}, "Rename of ", name(a))
		}
		isSo(t, atom.Same(a, a), false, "Same of itself ", name(a))
		for _, b := range append(some(), wrong()[0], a) {
			isSo(t, atom.Same(a, b) || atom.Same(b, a), false, "Same of ", name(a), " and ", name(b))
			isSo(t, atom.Compare(a, b), 0, "Compare of ", name(a), " and ", name(b))
			isSo(t, atom.Compare(b, a), 0, "Compare of ", name(b), " and ", name(a))
		}
	}
}

// P10.2: with a term in place of a variable; the kind, and Mod, stay, and nothing is made canonical.
func TestP10_2Put(t *testing.T) {
	equal(t, atom.Put(le(5, 0, 2, 1, 4), 1, linear(1, 0, 1)), le(9, 0, 6), "Put in an Le")
	equal(t, atom.Put(lt(5, 0, 2, 1, 4), 0, linear(0, 1, -2)), lt(5), "Put in an Lt, which has no variable any more")
	equal(t, atom.Put(eq(-4, 0, -2), 0, linear(3, 7, 1)), eq(-10, 7, -2), "Put in an Eq")
	equal(t, atom.Put(div(4, 2, 0, 6), 0, linear(8, 0, 2)), div(4, 50, 0, 12), "Put in a Div")
	for _, a := range some() {
		for _, v := range []int{0, 1, 2, 3, 6, last, -1, math.MinInt, api.MaxVars, math.MaxInt} {
			for _, s := range terms() {
				want := api.Atom{Kind: a.Kind, Term: term.Put(a.Term, v, s), Mod: a.Mod}
				equal(t, atom.Put(a, v, s), want, "Put of ", v, " in ", name(a))
				if v < 0 || v > last {
					equal(t, want, a, "Put of what is no variable in ", name(a))
				}
			}
			for _, s := range wrongTerms() {
				equal(t, atom.Put(a, v, s), api.Atom{}, "Put of a term that may not be for ", v, " in ", name(a))
			}
		}
	}
}

// P10.2: renamed, all at once; no, if the lists are not as long, or a variable is out of its range.
func TestP10_2Rename(t *testing.T) {
	for _, c := range []struct {
		from, to []int
		want     api.Atom
	}{
		{nil, []int{}, div(4, 7, 0, 6, 1, 3)}, {[]int{0, 1}, []int{1, 0}, div(4, 7, 0, 3, 1, 6)}, {[]int{0}, []int{1}, div(4, 7, 1, 9)}, {[]int{0, 0}, []int{last, 5}, div(4, 7, 1, 3, last, 6)}, {[]int{-1, api.MaxVars, 2}, []int{0, 1, 2}, div(4, 7, 0, 6, 1, 3)},
	} {
		got, is := atom.Rename(div(4, 7, 0, 6, 1, 3), c.from, c.to)
		isSo(t, is, true, "Rename from ", c.from, " to ", c.to)
		equal(t, got, c.want, "Rename from ", c.from, " to ", c.to)
	}
	for _, a := range some() {
		for _, c := range [][2][]int{{nil, nil}, {{0, 1, 3}, {1, 3, 0}}, {{0, 1, 3}, {2, 2, 2}}, {{last, 0}, {0, last}}} {
			s, _ := term.Rename(a.Term, c[0], c[1])
			got, is := atom.Rename(a, c[0], c[1])
			isSo(t, is, true, "Rename of ", name(a), " from ", c[0], " to ", c[1])
			equal(t, got, api.Atom{Kind: a.Kind, Term: s, Mod: a.Mod}, "Rename of ", name(a), " from ", c[0], " to ", c[1])
		}
		for _, c := range [][2][]int{{nil, {1}}, {{1}, nil}, {{0, 1}, {1}}, {{0}, {1, 0}}, {{0}, {-1}}, {{0}, {api.MaxVars}}, {{0, 1}, {1, math.MinInt}}, {{77}, {math.MaxInt}}, {{0, 0}, {1, -1}}} {
			got, is := atom.Rename(a, c[0], c[1])
			isSo(t, is, false, "Rename of ", name(a), " from ", c[0], " to ", c[1])
			equal(t, got, api.Atom{}, "Rename of ", name(a), " from ", c[0], " to ", c[1])
		}
	}
}

// P10.5: with a term put in place of a variable an atom holds just if it does by the term's value for that variable.
func TestP10_5Put(t *testing.T) {
	lists := quotients()
	for _, a := range fewer() {
		for _, s := range []api.Term{{}, linear(-3), linear(1, 0, 1), linear(2, 0, -1, 1, 3), linear(-1, 1, 2), linear(0, 2, 5)} {
			for v := range 3 {
				put := atom.Put(a, v, s)
				for k, values := range lists {
					if k%16 > 3 {
						continue
					}
					by := append(slices.Clone(values), ints(0, 0, 0)...)
					by[v] = term.Value(s, values)
					if want := atom.Holds(a, by); atom.Holds(put, values) != want {
						t.Error("Holds, of Put of", v, "in", name(a), ": want", want)
					}
				}
			}
		}
	}
}

// P10.5: renamed, an atom holds just if it does by the values that are renamed.
func TestP10_5Rename(t *testing.T) {
	lists := quotients()
	for _, a := range append(fewer(), many()...) {
		for _, to := range [][]int{{1, 0}, {0, 0}, {2, 1}, {3, 4}, {1, 1}} {
			renamed, _ := atom.Rename(a, []int{0, 1}, to)
			for k, values := range lists {
				if k%5 > 0 {
					continue
				}
				values = append(slices.Clone(values), ints(2, -3, 5, 0, 1)...)
				by := slices.Clone(values)
				by[0], by[1] = values[to[0]], values[to[1]]
				if want := atom.Holds(a, by); atom.Holds(renamed, values) != want {
					t.Error("Holds, renamed to", to, "of", name(a), ": want", want)
				}
			}
		}
	}
}

// P10.2, P10.6: how two stand, by hand.
func TestP10_2Compare(t *testing.T) {
	rising := []api.Atom{eq(-1), eq(0), eq(5, 0, -2), eq(-3, 0, 1), eq(9, 0, 1), eq(0, 0, 1, 1, 1), eq(0, 1, 1), eq(0, last, 1),
		div(1, -9), div(2, -9), div(1, 0), {Kind: api.Div, Mod: above(1, 1)}, {Kind: api.Div, Mod: longest()}, div(5, 0, 0, 1), div(6, 0, 0, 1), div(2, 1, 0, 1), div(1, 0, 1, -3),
		le(-7), {}, le(2, 0, -3, 1, 1), le(1, 0, -3, 2, 1), le(0, 0, 1), le(1, 0, 1), le(-1, 1, 1), le(0, last, 8), lt(-2), lt(0), lt(-9, 0, -1), lt(0, 0, 1), lt(0, 1, -1)}
	for i, a := range rising {
		for j, b := range rising {
			isSo(t, atom.Compare(a, b), cmp.Compare(i, j), "Compare of ", name(a), " and ", name(b))
			isSo(t, atom.Same(a, b), i == j, "Same of ", name(a), " and ", name(b))
		}
	}
}

// place tells how two atoms stand, by the words.
func place(a, b api.Atom) int {
	row := []uint8{api.Eq, api.Div, api.Le, api.Lt}
	if c := slices.Index(row, a.Kind) - slices.Index(row, b.Kind); c != 0 {
		return cmp.Compare(c, 0)
	}
	if c := term.Compare(a.Term, b.Term); c != 0 {
		return c
	}
	return value(a.Mod).Cmp(value(b.Mod))
}

// P10.6: Compare is a row, 0 just of the same.
func TestP10_6Row(t *testing.T) {
	l := append(all(), few()...)
	slices.SortFunc(l, place)
	l = slices.CompactFunc(l, sameAtom)
	for i, a := range l {
		for j := 0; j < len(l); j += 1 + (i+j)%3 {
			if atom.Compare(a, l[j]) != cmp.Compare(i, j) || atom.Same(a, l[j]) != (i == j) {
				t.Error("Compare, or Same, of", name(a), "and", name(l[j]))
			}
		}
		isSo(t, atom.Same(a, a), true, "Same of itself ", name(a))
		isSo(t, atom.Compare(a, a), 0, "Compare of itself ", name(a))
	}
}

// Atoms of the longest numbers are as others; what would be too long is 0, number by number.
func TestLong(t *testing.T) {
	top, one := longest(), whole.Of(1)
	least := whole.Neg(top)
	third, _, _ := euclid.Floor(top, whole.Of(3))
	x := func(coef int, add api.Int) api.Term {
		return api.Term{Parts: []api.Part{{Var: 0, Coef: whole.Of(coef)}}, Add: add}
	}
	canon(t, api.Whole, api.Atom{Kind: api.Le, Term: x(3, top)}, api.Atom{Kind: api.Le, Term: x(1, third)}, atom.Open)
	canon(t, api.Whole, api.Atom{Kind: api.Lt, Term: x(3, top)}, api.Atom{Kind: api.Le, Term: x(1, whole.Add(third, one))}, atom.Open)
	canon(t, api.Whole, api.Atom{Kind: api.Lt, Term: x(1, least)}, api.Atom{Kind: api.Le, Term: x(1, whole.Add(least, one))}, atom.Open)
	canon(t, api.Whole, api.Atom{Kind: api.Lt, Term: x(1, top)}, api.Atom{Kind: api.Le, Term: x(1, api.Int{})}, atom.Open)
	canon(t, api.Whole, api.Atom{Kind: api.Lt, Term: api.Term{Add: top}}, api.Atom{}, atom.No)
	canon(t, api.Real, api.Atom{Kind: api.Eq, Term: api.Term{Parts: []api.Part{{Var: 2, Coef: least}}, Add: top}}, eq(-1, 2, 1), atom.Open)
	canon(t, api.Whole, api.Atom{Kind: api.Div, Term: x(4, whole.Sub(top, one)), Mod: top}, api.Atom{Kind: api.Div, Term: x(4, whole.Sub(top, one)), Mod: top}, atom.Open)
	canon(t, api.Whole, api.Atom{Kind: api.Div, Term: api.Term{Parts: []api.Part{{Var: 2, Coef: least}}, Add: top}, Mod: top}, api.Atom{}, atom.Yes)
	deny(t, api.Real, api.Atom{Kind: api.Le, Term: x(2, top)}, api.Atom{Kind: api.Lt, Term: x(-2, least)})
	deny(t, api.Whole, api.Atom{Kind: api.Le, Term: x(2, top)}, api.Atom{Kind: api.Le, Term: x(-2, whole.Add(least, one))})
	deny(t, api.Whole, api.Atom{Kind: api.Le, Term: x(2, least)}, api.Atom{Kind: api.Le, Term: x(-2, api.Int{})})
	deny(t, api.Whole, api.Atom{Kind: api.Eq, Term: x(2, top)}, api.Atom{Kind: api.Le, Term: x(2, api.Int{})}, api.Atom{Kind: api.Le, Term: x(-2, whole.Add(least, one))})
	deny(t, api.Whole, api.Atom{Kind: api.Div, Term: x(2, whole.Sub(top, one)), Mod: whole.Of(3)}, api.Atom{Kind: api.Div, Term: x(2, top), Mod: whole.Of(3)}, api.Atom{Kind: api.Div, Term: x(2, api.Int{}), Mod: whole.Of(3)})
	isSo(t, atom.Holds(api.Atom{Kind: api.Le, Term: x(1, least)}, []api.Rat{rat.Of(top)}), true, "Holds of an Le by the longest number")
	isSo(t, atom.Holds(api.Atom{Kind: api.Lt, Term: x(1, least)}, []api.Rat{rat.Of(top)}), false, "Holds of an Lt by the longest number")
	isSo(t, atom.Holds(api.Atom{Kind: api.Div, Term: x(1, api.Int{}), Mod: top}, []api.Rat{rat.Of(least)}), true, "Holds of a Div by the longest number")
}

// spareNumber is a number with something behind its end, and a look at whether all of it is as it was.
func spareNumber(x api.Int) (api.Int, func() bool) {
	l := slices.Concat(x.Limbs, []uint32{9, 9, 9})
	want := slices.Clone(l)
	return api.Int{Neg: x.Neg, Limbs: l[:len(x.Limbs)]}, func() bool { return slices.Equal(l, want) }
}

// spare is an atom whose lists have something behind their end, and a look at whether all of it is as it was.
func spare(x api.Atom) (api.Atom, func() bool) {
	add, addStays := spareNumber(x.Term.Add)
	mod, modStays := spareNumber(x.Mod)
	looks := []func() bool{addStays, modStays}
	var l []api.Part
	for _, p := range x.Term.Parts {
		coef, stays := spareNumber(p.Coef)
		l, looks = append(l, api.Part{Var: p.Var, Coef: coef}), append(looks, stays)
	}
	l = append(l, api.Part{Var: 9, Coef: whole.Of(9)}, api.Part{Var: 9, Coef: whole.Of(9)})
	kept := slices.Clone(l)
	return api.Atom{Kind: x.Kind, Term: api.Term{Parts: l[:len(x.Term.Parts)], Add: add}, Mod: mod}, func() bool {
		for _, look := range looks {
			if !look() {
				return false
			}
		}
		// The limbs are held against themselves here: they have been looked at.
		return slices.EqualFunc(l, kept, samePart)
	}
}

// calls are all calls, with what they tell as atoms.
func calls() map[string]func(a, b api.Atom) []api.Atom {
	canon := func(logic uint8, a api.Atom) []api.Atom {
		b, _, _ := atom.Canon(logic, a)
		return []api.Atom{b}
	}
	denials := func(logic uint8, a api.Atom) []api.Atom {
		first, _ := atom.Deny(logic, a, 0)
		second, _ := atom.Deny(logic, a, 1)
		return []api.Atom{first, second}
	}
	renamed := func(a api.Atom, from, to []int) []api.Atom {
		b, _ := atom.Rename(a, from, to)
		return []api.Atom{b}
	}
	return map[string]func(a, b api.Atom) []api.Atom{
		"Canon, Real":  func(a, b api.Atom) []api.Atom { return canon(api.Real, a) },
		"Canon, Whole": func(a, b api.Atom) []api.Atom { return canon(api.Whole, a) },
		"Deny, Real":   func(a, b api.Atom) []api.Atom { return denials(api.Real, a) },
		"Deny, Whole":  func(a, b api.Atom) []api.Atom { return denials(api.Whole, a) },
		"Put": func(a, b api.Atom) []api.Atom {
			return []api.Atom{atom.Put(a, 0, b.Term), atom.Put(a, 2, b.Term), atom.Put(a, -1, b.Term)}
		},
		"Rename": func(a, b api.Atom) []api.Atom { return renamed(a, []int{0, 1, 4}, []int{1, 0, 3}) },
		"none":   func(a, b api.Atom) []api.Atom { return renamed(a, nil, nil) },
		"the others": func(a, b api.Atom) []api.Atom {
			atom.In(api.Whole, a)
			atom.Holds(a, []api.Rat{{Num: b.Term.Add, Den: whole.Of(1)}, {Num: b.Mod, Den: b.Mod}})
			if atom.May(a) && atom.Same(a, b) {
				return nil
			}
			return []api.Atom{le(atom.Compare(a, b))}
		},
	}
}

// scribble puts other limbs, and parts, into what was told, behind their ends too, and tells whether no two of all numbers share memory.
func scribble(l []api.Atom) (apart bool) {
	var limbs [][]uint32
	for _, x := range l {
		limbs = append(limbs, x.Term.Add.Limbs[:cap(x.Term.Add.Limbs)], x.Mod.Limbs[:cap(x.Mod.Limbs)])
		for _, p := range x.Term.Parts {
			limbs = append(limbs, p.Coef.Limbs[:cap(p.Coef.Limbs)])
		}
		clear(x.Term.Parts[:cap(x.Term.Parts)])
	}
	apart = true
	for i, n := range limbs {
		others := limbs[i+1:]
		kept := make([][]uint32, len(others))
		for k, m := range others {
			kept[k] = slices.Clone(m)
		}
		for k := range n {
			n[k] ^= full
		}
		apart = apart && slices.EqualFunc(others, kept, slices.Equal)
	}
	return apart
}

// R1: what is handed in stays, also behind its end; what is told shares no memory with it, nor one number with another one.
func TestR1Memory(t *testing.T) {
	l := append(some(), wrong()[0], wrong()[20], wrong()[len(wrong())-1], div(7, 3, 0, 2), api.Atom{Term: api.Term{Add: above(1, 0)}})
	for i, x := range l {
		for j, y := range l {
			if (i+j)%4 > 0 && i != j {
				continue
			}
			for what, call := range calls() {
				a, firstStays := spare(x)
				b, secondStays := spare(y)
				if !scribble(call(a, b)) {
					t.Fatal(what, "tells two numbers that share memory:", name(x), "and", name(y))
				}
				if !firstStays() || !secondStays() {
					t.Fatal(what, "changes, or shares, what it is handed:", name(x), "and", name(y))
				}
			}
		}
	}
}

// R1: lists of variables, and of values, that are handed in stay; what is told is told once more just so.
func TestR1Lists(t *testing.T) {
	a := div(6, 7, 0, 2, 1, 3, 5, -2)
	from, to := []int{5, 0, 5, 1}, []int{1, 1, 2, 9}
	atom.Rename(a, from[:2], to[:2])
	if !slices.Equal(from, []int{5, 0, 5, 1}) || !slices.Equal(to, []int{1, 1, 2, 9}) {
		t.Error("Rename changes its lists:", from, to)
	}
	values := []api.Rat{of(1, 2), {}, of(-7, 3), {Num: whole.Of(2), Den: whole.Of(2)}}
	kept := slices.Clone(values)
	atom.Holds(a, values[:2])
	for k, x := range values {
		if !sameInt(x.Num, kept[k].Num) || !sameInt(x.Den, kept[k].Den) {
			t.Error("Holds changes its list:", k)
		}
	}
	for _, a := range some() {
		first, _, _ := atom.Canon(api.Whole, a)
		want, _, _ := atom.Canon(api.Whole, a)
		scribble([]api.Atom{first})
		again, _, _ := atom.Canon(api.Whole, a)
		equal(t, again, want, "Canon, told once more, of ", name(a))
	}
}
