package term_test

import (
	"cmp"
	"fmt"
	"maps"
	"math"
	"math/big"
	"math/rand"
	"slices"
	"testing"

	"alidade/api"
	"alidade/rat"
	"alidade/term"
	"alidade/whole"
)

const (
	full = math.MaxUint32
	last = api.MaxVars - 1 // the greatest variable
)

// repeat is a natural of so many limbs, all the same but for the last one.
func repeat(long int, limb, end uint32) []uint32 {
	n := slices.Repeat([]uint32{limb}, long)
	n[long-1] = end
	return n
}

// mixed is a natural of so many limbs, of a fixed seed, with limbs at their edges among them.
func mixed(long, seed int) []uint32 {
	r := rand.New(rand.NewSource(int64(seed)<<32 + int64(long)))
	edges := []uint32{0, 1, full, full - 1, 1 << 31}
	n := make([]uint32, long)
	for k := range n {
		n[k] = r.Uint32()
		if e := r.Intn(16); e < len(edges) {
			n[k] = edges[e]
		}
	}
	n[long-1] |= 1
	return n
}

// above, below are the whole numbers of a natural's limbs.
func above(n []uint32) api.Int { return api.Int{Limbs: n} }
func below(n []uint32) api.Int { return api.Int{Neg: true, Limbs: n} }

// longest is the greatest whole number of all.
func longest() api.Int { return above(repeat(api.MaxLong, full, full)) }

// number is the whole number that one of math/big is.
func number(x *big.Int) api.Int {
	var n []uint32
	for b := x.Bytes(); len(b) > 0; b = b[:max(len(b)-4, 0)] {
		w := uint32(0)
		for _, c := range b[max(len(b)-4, 0):] {
			w = w<<8 | uint32(c)
		}
		n = append(n, w)
	}
	return api.Int{Neg: x.Sign() < 0, Limbs: n}
}

// value is a whole number as math/big has it.
func value(x api.Int) *big.Int {
	b := make([]byte, 0, 4*len(x.Limbs))
	for _, w := range slices.Backward(x.Limbs) {
		b = append(b, byte(w>>24), byte(w>>16), byte(w>>8), byte(w))
	}
	v := new(big.Int).SetBytes(b)
	if x.Neg {
		v.Neg(v)
	}
	return v
}

// quotient is the quotient that one of math/big is.
func quotient(x *big.Rat) api.Rat { return api.Rat{Num: number(x.Num()), Den: number(x.Denom())} }

// fraction is a quotient as math/big has it.
func fraction(x api.Rat) *big.Rat { return new(big.Rat).SetFrac(value(x.Num), value(x.Den)) }

// of is the quotient of two numbers, in lowest terms.
func of(num, den int64) api.Rat { return quotient(big.NewRat(num, den)) }

// part is a variable, so many times.
func part(v, coef int) api.Part { return api.Part{Var: v, Coef: whole.Of(coef)} }

// linear is the term of a number, and of variables, each with its Coef behind it; they have to rise.
func linear(add int, l ...int) api.Term {
	t := api.Term{Add: whole.Of(add)}
	for ; len(l) > 0; l = l[2:] {
		t.Parts = append(t.Parts, part(l[0], l[1]))
	}
	return t
}

// sum is a term as the tests have it: each variable's Coef, and the number as that of the variable -1.
type sum map[int]*big.Int

// sumOf is a term so.
func sumOf(t api.Term) sum {
	s := sum{-1: value(t.Add)}
	for _, p := range t.Parts {
		s[p.Var] = value(p.Coef)
	}
	return s
}

// plus adds a variable, so many times.
func (s sum) plus(v int, n *big.Int) {
	if s[v] == nil {
		s[v] = new(big.Int)
	}
	s[v] = new(big.Int).Add(s[v], n)
}

// term is the term that it is.
func (s sum) term() api.Term {
	var t api.Term
	for _, v := range slices.Sorted(maps.Keys(s)) {
		switch {
		case v < 0:
			t.Add = number(s[v])
		case s[v].Sign() != 0:
			t.Parts = append(t.Parts, api.Part{Var: v, Coef: number(s[v])})
		}
	}
	return t
}

// valueBy is its value, by values of variables.
func (s sum) valueBy(values []api.Rat) *big.Rat {
	x := new(big.Rat)
	for v, n := range s {
		at := big.NewRat(1, 1)
		if v >= 0 {
			at.SetInt64(0)
			if v < len(values) && rat.May(values[v]) {
				at = fraction(values[v])
			}
		}
		x.Add(x, at.Mul(at, new(big.Rat).SetInt(n)))
	}
	return x
}

// few are short terms, all with Coefs and numbers from a short list.
func few() []api.Term {
	var l []api.Term
	for _, add := range []int{-3, 0, 1} {
		for _, x := range []int{-2, 0, 1} {
			for _, y := range []int{-1, 0, 3} {
				for _, z := range []int{0, 2} {
					l = append(l, sum{-1: big.NewInt(int64(add)), 0: big.NewInt(int64(x)), 1: big.NewInt(int64(y)), 4: big.NewInt(int64(z))}.term())
				}
			}
		}
	}
	return l
}

// many are others, with edges of limbs, of variables, of numbers, and with some that are longer.
func many() []api.Term {
	l := []api.Term{linear(0, last, 1), linear(-1, 0, 1, last, -1), linear(7, last-1, 6, last, 9), linear(math.MinInt, 3, math.MaxInt), linear(full, 0, full, 1, -full, 2, full+1), linear(math.MaxInt), linear(math.MinInt)}
	long := api.Term{Add: below(mixed(9, 9))}
	for k := range 40 {
		long.Parts = append(long.Parts, api.Part{Var: 3 * k, Coef: api.Int{Neg: k%3 == 1, Limbs: mixed(1+k%7, k)}})
	}
	other := api.Term{Add: above(mixed(2, 3))}
	for k := range 30 {
		other.Parts = append(other.Parts, api.Part{Var: 2*k + 1, Coef: api.Int{Neg: k%2 == 1, Limbs: mixed(1+k%5, 50+k)}})
	}
	common := above(mixed(3, 77))
	thrice := api.Term{Add: whole.Mul(common, whole.Of(-6)), Parts: []api.Part{{Var: 1, Coef: whole.Mul(common, whole.Of(4))}, {Var: 3, Coef: whole.Mul(common, whole.Of(10))}}}
	return append(l, long, other, thrice, api.Term{Parts: long.Parts[:20], Add: whole.Of(1)}, api.Term{Parts: other.Parts[10:]})
}

// all are both of them.
func all() []api.Term { return slices.Concat(few(), many()) }

// some are fewer, of all kinds.
func some() []api.Term {
	l := []api.Term{{}, linear(1), linear(-5), linear(0, 0, 1), linear(0, 1, -1), linear(2, 0, -1, 1, 1), linear(-7, 1, 3, 4, 2), linear(6, 0, 2, 1, -4, 4, 8)}
	return append(l, many()...)
}

// variables are what may be handed in as variables, in their range and out of it.
func variables() []int {
	return []int{0, 1, 2, 3, 4, 5, 6, 7, 57, 117, 118, last - 1, last, api.MaxVars, api.MaxVars + 1, -1, -2, math.MinInt, math.MaxInt}
}

// numbers are whole numbers, edges of limbs among them.
func numbers() []api.Int {
	return []api.Int{whole.Of(0), whole.Of(1), whole.Of(-1), whole.Of(2), whole.Of(-3), whole.Of(10), above([]uint32{full}), below([]uint32{0, 1}), above(mixed(3, 77)), below(mixed(11, 5))}
}

// wrongNumbers are whole numbers that may not be.
func wrongNumbers() []api.Int {
	return []api.Int{{Neg: true}, {Neg: true, Limbs: []uint32{}}, above([]uint32{0}), below([]uint32{0}), above([]uint32{1, 0}), below([]uint32{7, 0, 0}),
		above(repeat(api.MaxLong, 1, 0)), above(repeat(api.MaxLong+1, 0, 1)), below(repeat(api.MaxLong+1, full, full))}
}

// wrong are terms that may not be, for each reason, at each place.
func wrong() []api.Term {
	l := []api.Term{linear(1, -1, 1), linear(1, math.MinInt, 1), linear(0, api.MaxVars, 1), linear(0, math.MaxInt, 2), linear(0, -1, 1, 0, 1), linear(0, 0, 1, api.MaxVars, 1), linear(0, 0, 1, -1, 1),
		linear(0, 1, 1, 1, 1), linear(0, 1, 1, 1, -1), linear(0, 1, 1, 0, 1), linear(5, 0, 1, 2, 1, 1, 1), linear(5, 0, 1, 2, 1, 2, 3), linear(5, 3, 1, 2, 1, 1, 1),
		linear(0, 0, 0), linear(3, 1, 0), linear(0, 0, 0, 1, 1), linear(0, 0, 2, 1, 0), linear(0, 0, 2, 1, 0, 2, 3)}
	for _, n := range wrongNumbers() {
		l = append(l, api.Term{Add: n}, api.Term{Parts: linear(0, 0, 1, 1, 2).Parts, Add: n}, api.Term{Parts: []api.Part{{Var: 0, Coef: n}}}, api.Term{Parts: []api.Part{part(0, 3), {Var: 1, Coef: n}}, Add: whole.Of(1)},
			api.Term{Parts: []api.Part{{Var: 1, Coef: n}, part(2, 1), part(last, 2)}, Add: whole.Of(1)})
	}
	return l
}

// wrongValues are quotients that may not be.
func wrongValues() []api.Rat {
	one := whole.Of(1)
	l := []api.Rat{{}, {Num: one}, {Num: one, Den: whole.Of(-1)}, {Num: whole.Of(2), Den: whole.Of(4)}, {Den: whole.Of(7)}, {Num: whole.Of(-3), Den: whole.Of(3)}}
	for _, n := range wrongNumbers() {
		l = append(l, api.Rat{Num: n, Den: one}, api.Rat{Num: one, Den: n})
	}
	return l
}

// values are lists of values of variables, of different lengths, also with such that may not be.
func values() [][]api.Rat {
	long := make([]api.Rat, 130)
	for k := range long {
		long[k] = of(int64(k*k-50), int64(1+k%12))
	}
	huge := []api.Rat{quotient(new(big.Rat).SetFrac(value(below(mixed(6, 1))), value(above(mixed(4, 2))))), rat.Of(above(mixed(9, 3))), of(1, math.MaxInt64), of(0, 1), of(math.MinInt64, full)}
	l := [][]api.Rat{nil, {}, {of(1, 2)}, {of(0, 1), of(-2, 3)}, {of(5, 1), of(-7, 1), of(100, 1), of(3, 1), of(-4, 1)}, {of(1, 6), of(1, 10), of(1, 15), of(1, 4), of(-1, 9)}, long, huge}
	for k, x := range wrongValues() {
		mingled := slices.Clone(l[4+k%2])
		mingled[k%len(mingled)] = x
		l = append(l, mingled)
	}
	return l
}

// name tells a term briefly.
func name(t api.Term) string {
	s := ""
	for k, p := range t.Parts {
		if k > 5 {
			return fmt.Sprintf("%s.. %d parts, %s", s, len(t.Parts), numberName(t.Add))
		}
		s += fmt.Sprintf("%s of %d, ", numberName(p.Coef), p.Var)
	}
	return s + numberName(t.Add)
}

// numberName tells a whole number briefly.
func numberName(x api.Int) string {
	sign := ""
	if x.Neg {
		sign = "-"
	}
	if n := x.Limbs; len(n) > 4 {
		return fmt.Sprintf("%s[%d %d .. %d, %d limbs]", sign, n[0], n[1], n[len(n)-1], len(n))
	}
	return fmt.Sprint(sign, x.Limbs)
}

// sameInt tells whether two whole numbers are the same.
func sameInt(a, b api.Int) bool { return a.Neg == b.Neg && slices.Equal(a.Limbs, b.Limbs) }

// samePart tells whether two parts are the same.
func samePart(p, q api.Part) bool { return p.Var == q.Var && sameInt(p.Coef, q.Coef) }

// equal complains unless two are the same term, limb by limb.
func equal(t *testing.T, got, want api.Term, what ...any) {
	t.Helper()
	if !slices.EqualFunc(got.Parts, want.Parts, samePart) || !sameInt(got.Add, want.Add) {
		t.Errorf("%s: got %s, want %s", fmt.Sprint(what...), name(got), name(want))
	}
}

// equalInt complains unless two are the same whole number.
func equalInt(t *testing.T, got, want api.Int, what ...any) {
	t.Helper()
	if !sameInt(got, want) {
		t.Errorf("%s: got %s, want %s", fmt.Sprint(what...), numberName(got), numberName(want))
	}
}

// equalRat complains unless two are the same quotient, number by number.
func equalRat(t *testing.T, got, want api.Rat, what ...any) {
	t.Helper()
	equalInt(t, got.Num, want.Num, append(what, ", the first number")...)
	equalInt(t, got.Den, want.Den, append(what, ", the second number")...)
}

// isSo complains unless a number is the one that is wanted.
func isSo(t *testing.T, got, want int, what ...any) {
	t.Helper()
	if got != want {
		t.Errorf("%s: got %d, want %d", fmt.Sprint(what...), got, want)
	}
}

// told complains unless a term is told with a yes.
func told(t *testing.T, got api.Term, is bool, want api.Term, what ...any) {
	t.Helper()
	if !is {
		t.Errorf("%s: no", fmt.Sprint(what...))
	}
	equal(t, got, want, what...)
}

// refused complains unless no is told, and nothing beside it.
func refused(t *testing.T, got api.Term, is bool, what ...any) {
	t.Helper()
	if is {
		t.Errorf("%s: yes", fmt.Sprint(what...))
	}
	equal(t, got, api.Term{}, what...)
}

func TestExamples(t *testing.T) {
	s, is := term.Of([]api.Part{part(0, 3), part(1, 2), part(0, -3)}, whole.Of(5))
	told(t, s, is, linear(5, 1, 2), "Of 3x, 2y, -3x, and 5")
	s = term.Put(s, 1, linear(1, 0, 1))
	equal(t, s, linear(7, 0, 2), "Put of y by x + 1 in 2y + 5")
	equalRat(t, term.Value(s, []api.Rat{of(1, 2)}), of(8, 1), "Value of 2x + 7 by x = 1/2")
	coefs, whole := term.Content(linear(3, 0, 4, 1, 6))
	equalInt(t, coefs, above([]uint32{2}), "the content of 4x + 6y + 3")
	equalInt(t, whole, above([]uint32{1}), "the whole content of 4x + 6y + 3")
	s, is = term.Rename(linear(0, 0, 1, 1, 2), []int{0, 1}, []int{1, 0})
	told(t, s, is, linear(0, 0, 2, 1, 1), "Rename of x + 2y, turned about")
	isSo(t, term.Compare(linear(9, 0, 1), linear(0, 1, 1)), -1, "Compare of x + 9 and y")
}

// P9.1: which terms may be.
func TestP9_1May(t *testing.T) {
	l := append(all(), api.Term{Parts: []api.Part{}}, api.Term{Add: api.Int{Limbs: []uint32{}}}, api.Term{Add: longest()}, api.Term{Parts: []api.Part{{Var: last, Coef: whole.Neg(longest())}}})
	for _, x := range l {
		if !term.May(x) {
			t.Error("may be:", name(x))
		}
	}
	for _, x := range wrong() {
		if term.May(x) {
			t.Error("may not be:", name(x))
		}
	}
	for v := -3; v <= 3; v++ {
		for w := -3; w <= 3; w++ {
			for n := -1; n <= 1; n++ {
				if is := v >= 0 && w > v && n != 0; term.May(linear(0, v, 1, w, n)) != is {
					t.Error("May:", v, w, n)
				}
			}
		}
	}
}

// P9.1, P9.6: sums of whatever multiples, in any row, also more than one of a variable, also 0.
func TestP9_1Of(t *testing.T) {
	r := rand.New(rand.NewSource(91))
	vars := []int{0, 1, 2, 3, 9, last}
	for k := range 3000 {
		add, want := numbers()[r.Intn(len(numbers()))], sum{}
		want.plus(-1, value(add))
		parts := make([]api.Part, r.Intn(1+k%12))
		for i := range parts {
			parts[i] = api.Part{Var: vars[r.Intn(len(vars))], Coef: whole.Of(r.Intn(7) - 3)}
			if r.Intn(4) == 0 {
				parts[i].Coef = numbers()[r.Intn(len(numbers()))]
			}
			want.plus(parts[i].Var, value(parts[i].Coef))
		}
		got, is := term.Of(parts, add)
		told(t, got, is, want.term(), "Of ", parts, ", ", numberName(add))
		r.Shuffle(len(parts), func(i, j int) { parts[i], parts[j] = parts[j], parts[i] })
		got, is = term.Of(parts, add)
		told(t, got, is, want.term(), "Of, in another row, ", parts, ", ", numberName(add))
	}
	for _, x := range all() {
		got, is := term.Of(x.Parts, x.Add)
		told(t, got, is, x, "Of the parts of ", name(x))
		turned := slices.Clone(x.Parts)
		slices.Reverse(turned)
		got, is = term.Of(turned, x.Add)
		told(t, got, is, x, "Of the parts, turned about, of ", name(x))
	}
	var ones []api.Part
	for k := range 5000 {
		ones = append(ones, part(k*7919%5000, 2), part(k, -1))
	}
	got, is := term.Of(ones, api.Int{})
	if !is || len(got.Parts) != 5000 || !term.May(got) || !sameInt(got.Parts[4999].Coef, whole.Of(1)) {
		t.Error("Of many:", is, name(got))
	}
}

// P9.1: of multiples that may not be there is no sum, wherever they stand.
func TestOfWrong(t *testing.T) {
	for _, v := range []int{-1, math.MinInt, api.MaxVars, math.MaxInt} {
		for _, coef := range []int{0, 1, -2} {
			for _, parts := range [][]api.Part{{part(v, coef)}, {part(v, coef), part(0, 1)}, {part(0, 1), part(v, coef), part(2, 1)}, {part(v, 1), part(v, -1)}} {
				s, is := term.Of(parts, whole.Of(4))
				refused(t, s, is, "Of ", parts)
			}
		}
	}
	for _, n := range wrongNumbers() {
		bad := api.Part{Var: 1, Coef: n}
		for _, parts := range [][]api.Part{{bad}, {bad, part(1, 1)}, {part(0, 1), bad}, {part(1, 2), bad, part(1, 2)}, {bad, bad}} {
			s, is := term.Of(parts, whole.Of(4))
			refused(t, s, is, "Of a Coef ", numberName(n))
		}
		for _, parts := range [][]api.Part{nil, {part(0, 1)}, {part(0, 1), part(0, -1)}} {
			s, is := term.Of(parts, n)
			refused(t, s, is, "Of a number ", numberName(n))
		}
	}
}

// P9.1: numbers, and variables, as terms.
func TestP9_1NumVar(t *testing.T) {
	for _, n := range append(numbers(), longest()) {
		equal(t, term.Num(n), api.Term{Add: n}, "Num of ", numberName(n))
	}
	for _, n := range wrongNumbers() {
		equal(t, term.Num(n), api.Term{}, "Num of ", numberName(n))
	}
	for _, v := range variables() {
		if v < 0 || v > last {
			equal(t, term.Var(v), api.Term{}, "Var of ", v)
			continue
		}
		equal(t, term.Var(v), linear(0, v, 1), "Var of ", v)
	}
}

// P9.1: a variable's Coef, and all variables.
func TestP9_1CoefVars(t *testing.T) {
	for _, x := range all() {
		s, vars := sumOf(x), []int{}
		for _, v := range slices.Sorted(maps.Keys(s))[1:] {
			vars = append(vars, v)
		}
		if l := term.Vars(x); !slices.Equal(l, vars) {
			t.Error("Vars of", name(x), l)
		}
		for _, v := range slices.Concat(variables(), vars) {
			want := api.Int{}
			if v >= 0 && s[v] != nil {
				want = number(s[v])
			}
			equalInt(t, term.Coef(x, v), want, "Coef of ", v, " in ", name(x))
		}
	}
}

// place tells how two terms stand, by the words: part by part at the first place where they are not the same; or by how many there are; or by the numbers.
func place(a, b api.Term) int {
	for k, p := range a.Parts {
		if k == len(b.Parts) {
			return 1
		}
		q := b.Parts[k]
		if p.Var != q.Var {
			return cmp.Compare(p.Var, q.Var)
		}
		if c := value(p.Coef).Cmp(value(q.Coef)); c != 0 {
			return c
		}
	}
	if len(a.Parts) < len(b.Parts) {
		return -1
	}
	return value(a.Add).Cmp(value(b.Add))
}

// P9.1: how two stand, by hand.
func TestP9_1Compare(t *testing.T) {
	rising := []api.Term{linear(-9), {}, linear(9), linear(9, 0, -3, 1, 5), linear(5, 0, -2), linear(-1, 0, 1), linear(0, 0, 1), linear(-7, 0, 1, 1, -1), linear(8, 0, 1, 1, -1), linear(-8, 0, 1, 1, 2), linear(-9, 0, 1, 1, 2, 2, 1), linear(0, 0, 1, 2, -9), linear(0, 0, 2),
		linear(7, 1, -4, 2, 1), linear(0, 1, 1), {Parts: []api.Part{{Var: 1, Coef: above([]uint32{0, 1})}}}, linear(-1, 2, 1), linear(0, last, -1), linear(0, last, 1)}
	for i, a := range rising {
		for j, b := range rising {
			isSo(t, term.Compare(a, b), cmp.Compare(i, j), "Compare of ", name(a), " and ", name(b))
			if term.Same(a, b) != (i == j) {
				t.Error("Same:", name(a), name(b))
			}
		}
	}
}

// P9.8: Compare is a row, 0 just of the same.
func TestP9_8Row(t *testing.T) {
	l := all()
	slices.SortFunc(l, place)
	l = slices.CompactFunc(l, func(a, b api.Term) bool { return place(a, b) == 0 })
	for i, a := range l {
		for j, b := range l {
			isSo(t, term.Compare(a, b), cmp.Compare(i, j), "Compare of ", name(a), " and ", name(b))
			if term.Same(a, b) != (i == j) {
				t.Error("Same:", name(a), name(b))
			}
		}
	}
}

// P9.2: sums and differences.
func TestP9_2AddSub(t *testing.T) {
	for _, a := range all() {
		for _, b := range all() {
			more, less := sumOf(a), sumOf(a)
			for v, n := range sumOf(b) {
				more.plus(v, n)
				less.plus(v, new(big.Int).Neg(n))
			}
			equal(t, term.Add(a, b), more.term(), "Add of ", name(a), " and ", name(b))
			equal(t, term.Sub(a, b), less.term(), "Sub of ", name(a), " and ", name(b))
		}
	}
}

// P9.2: so many times.
func TestP9_2Scale(t *testing.T) {
	for _, x := range all() {
		for _, n := range numbers() {
			times := sum{}
			for v, c := range sumOf(x) {
				times.plus(v, new(big.Int).Mul(c, value(n)))
			}
			equal(t, term.Scale(x, n), times.term(), "Scale of ", name(x), " by ", numberName(n))
		}
	}
}

// P9.2, P9.7: divided by a number that divides all, or not; Exact of Scale by the same number is the term.
func TestP9_2Exact(t *testing.T) {
	l := append(numbers(), whole.Of(-2), whole.Of(3), whole.Of(4), whole.Of(6))
	for _, x := range all() {
		for _, n := range l {
			if len(n.Limbs) > 0 {
				back, is := term.Exact(term.Scale(x, n), n)
				told(t, back, is, x, "Exact of Scale of ", name(x), " by ", numberName(n))
			}
			divides, by := len(n.Limbs) > 0, sum{}
			for v, c := range sumOf(x) {
				if !divides {
					break
				}
				q, r := new(big.Int).QuoRem(c, value(n), new(big.Int))
				by[v], divides = q, r.Sign() == 0
			}
			got, is := term.Exact(x, n)
			if divides {
				told(t, got, is, by.term(), "Exact of ", name(x), " by ", numberName(n))
			} else {
				refused(t, got, is, "Exact of ", name(x), " by ", numberName(n))
			}
		}
	}
	for _, x := range []api.Term{linear(3, 0, 2, 1, 4), linear(2, 0, 3, 1, 4), linear(2, 0, 4, 1, 3), linear(1), linear(0, 5, 1)} {
		got, is := term.Exact(x, whole.Of(-2))
		refused(t, got, is, "Exact, -2 not dividing one of ", name(x))
	}
	got, is := term.Exact(api.Term{}, whole.Of(0))
	refused(t, got, is, "Exact of 0 by 0")
	got, is = term.Exact(api.Term{}, whole.Of(-7))
	told(t, got, is, api.Term{}, "Exact of 0 by -7")
}

// P9.2, P9.6: without a variable's part; that, and Coef times the variable, are the term.
func TestP9_2Without(t *testing.T) {
	for _, x := range all() {
		for _, v := range slices.Concat(variables(), term.Vars(x)) {
			s := sumOf(x)
			if v >= 0 {
				delete(s, v)
			}
			rest := term.Without(x, v)
			equal(t, rest, s.term(), "Without ", v, " of ", name(x))
			equal(t, term.Add(rest, term.Scale(term.Var(v), term.Coef(x, v))), x, "put together by ", v, " ", name(x))
		}
	}
}

// P9.2, P9.6: with a term in place of a variable; by itself nothing is changed.
func TestP9_2Put(t *testing.T) {
	l := some()
	for _, x := range all() {
		for _, v := range slices.Concat(variables(), term.Vars(x)) {
			if v >= 0 && v <= last {
				equal(t, term.Put(x, v, term.Var(v)), x, "Put of ", v, " by itself in ", name(x))
			}
			for _, y := range l {
				want := sumOf(x)
				if n := want[v]; v >= 0 && n != nil {
					delete(want, v)
					for w, c := range sumOf(y) {
						want.plus(w, new(big.Int).Mul(n, c))
					}
				}
				equal(t, term.Put(x, v, y), want.term(), "Put of ", v, " in ", name(x), " by ", name(y))
			}
		}
	}
	equal(t, term.Put(linear(1, 0, 2, 1, 3), 0, linear(4, 0, 5, 1, -6, 2, 1)), linear(9, 0, 10, 1, -9, 2, 2), "Put of x by what has x")
	equal(t, term.Put(linear(1, 0, 2, 1, 4), 0, linear(0, 1, -2)), linear(1), "Put of x by what cancels y")
}

// P9.2: renamed, all at once.
func TestP9_2Rename(t *testing.T) {
	x := linear(7, 0, 2, 1, 3, 5, -2)
	for _, c := range []struct {
		from, to []int
		want     api.Term
	}{
		{nil, []int{}, x},
		{[]int{0}, []int{0}, x},
		{[]int{0}, []int{9}, linear(7, 1, 3, 5, -2, 9, 2)},
		{[]int{0, 1, 5}, []int{1, 5, 0}, linear(7, 0, -2, 1, 2, 5, 3)},
		{[]int{1, 0}, []int{0, 1}, linear(7, 0, 3, 1, 2, 5, -2)},
		{[]int{0}, []int{1}, linear(7, 1, 5, 5, -2)},
		{[]int{0}, []int{5}, linear(7, 1, 3)},
		{[]int{0, 5}, []int{3, 3}, linear(7, 1, 3)},
		{[]int{0, 1, 5}, []int{last, last, last}, linear(7, last, 3)},
		{[]int{0, 0, 0}, []int{2, 3, 0}, linear(7, 1, 3, 2, 2, 5, -2)},
		{[]int{5, 0, 5, 1, 0}, []int{0, 1, 9, 4, 5}, linear(7, 0, -2, 1, 2, 4, 3)},
		{[]int{2, 3, -1, api.MaxVars, math.MinInt}, []int{0, 1, 2, 3, 4}, x},
		{[]int{0, 1}, []int{last, 0}, linear(7, 0, 3, 5, -2, last, 2)},
	} {
		got, is := term.Rename(x, c.from, c.to)
		told(t, got, is, c.want, "Rename from ", c.from, " to ", c.to)
	}
	for _, c := range [][2][]int{{nil, {1}}, {{1}, nil}, {{0, 1}, {1}}, {{0}, {1, 0}}, {{0}, {-1}}, {{0}, {api.MaxVars}}, {{0, 1}, {1, math.MinInt}}, {{9}, {math.MaxInt}}, {{0, 0}, {1, -1}}, {{-1}, {-1}}, {{0, 1}, {api.MaxVars, 0}}} {
		got, is := term.Rename(x, c[0], c[1])
		refused(t, got, is, "Rename from ", c[0], " to ", c[1])
	}
}

// P9.2: renamed by lists of all kinds, against one variable after the other.
func TestP9_2RenameMany(t *testing.T) {
	r, l := rand.New(rand.NewSource(92)), some()
	for k := range 2000 {
		x := l[k%len(l)]
		from, to := make([]int, r.Intn(9)), []int{}
		for i := range from {
			from[i] = r.Intn(7)
			to = append(to, r.Intn(7))
		}
		want := sum{}
		for v, n := range sumOf(x) {
			if i := slices.Index(from, v); i >= 0 {
				v = to[i]
			}
			want.plus(v, n)
		}
		got, is := term.Rename(x, from, to)
		told(t, got, is, want.term(), "Rename of ", name(x), " from ", from, " to ", to)
	}
}

// P9.3: values, of variables behind the list and of values that may not be 0.
func TestP9_3Value(t *testing.T) {
	for _, x := range all() {
		for _, l := range values() {
			equalRat(t, term.Value(x, l), quotient(sumOf(x).valueBy(l)), "Value of ", name(x), " by so many: ", len(l))
		}
	}
	for _, y := range wrongValues() {
		equalRat(t, term.Value(linear(5, 0, 3, 1, 2), []api.Rat{y, of(1, 4)}), of(11, 2), "Value by what may not be ahead")
		equalRat(t, term.Value(linear(5, 0, 3, 1, 2), []api.Rat{of(1, 3), y}), of(6, 1), "Value by what may not be behind")
	}
	end := make([]api.Rat, api.MaxVars+5)
	for k := range end {
		end[k] = of(int64(last-k), 2)
	}
	equalRat(t, term.Value(linear(1, 0, 4, last-1, 3, last, 5), end), of(4*last+3+2, 2), "Value by all variables")
	equalRat(t, term.Value(linear(1, 0, 4, last-1, 3, last, 5), end[:last]), of(4*last+3+2, 2), "Value by all variables but the last one")
	equalRat(t, term.Value(linear(1, 0, 4, last-1, 3, last, 5), end[:last-1]), of(4*last+2, 2), "Value by all variables but two")
}

// P9.3, P9.7: content, and whole content, each dividing all; by its whole content a term has the whole content 1.
func TestP9_3Content(t *testing.T) {
	for _, x := range all() {
		c := new(big.Int)
		for v, n := range sumOf(x) {
			if v >= 0 {
				c.GCD(nil, nil, c, new(big.Int).Abs(n))
			}
		}
		w := new(big.Int).GCD(nil, nil, c, new(big.Int).Abs(value(x.Add)))
		coefs, all := term.Content(x)
		equalInt(t, coefs, number(c), "the content of ", name(x))
		equalInt(t, all, number(w), "the whole content of ", name(x))
		if w.Sign() == 0 {
			equal(t, x, api.Term{}, "a whole content of 0")
			continue
		}
		by, is := term.Exact(x, all)
		if _, one := term.Content(by); !is || !sameInt(one, whole.Of(1)) {
			t.Error("divided by its whole content:", name(x), is, name(by))
		}
	}
	for _, c := range []struct {
		of         api.Term
		coefs, all int
	}{{api.Term{}, 0, 0}, {linear(-6), 0, 6}, {linear(0, 3, -6), 6, 6}, {linear(-4, 0, -6, 2, 10), 2, 2}, {linear(9, 0, 6, 1, 12), 6, 3}, {linear(0, 0, 6, 1, 4, 2, 9), 1, 1}} {
		coefs, all := term.Content(c.of)
		equalInt(t, coefs, whole.Of(c.coefs), "the content of ", name(c.of))
		equalInt(t, all, whole.Of(c.all), "the whole content of ", name(c.of))
	}
}

// P9.4: sums are the same turned about, and wherever they are begun; n times a sum is the sum of n times each; less itself a term is 0.
func TestP9_4Space(t *testing.T) {
	for _, a := range some() {
		equal(t, term.Sub(a, a), api.Term{}, "less itself ", name(a))
		equal(t, term.Add(a, term.Scale(a, whole.Of(-1))), api.Term{}, "and -1 times it ", name(a))
		for _, b := range some() {
			both := term.Add(a, b)
			if !term.May(both) || !term.May(term.Sub(a, b)) {
				t.Error("what is told may not be:", name(a), name(b))
			}
			equal(t, term.Add(b, a), both, "a sum turned about ", name(a), " and ", name(b))
			equal(t, term.Sub(both, b), a, "Sub undoes Add ", name(a), " and ", name(b))
			for _, n := range numbers() {
				equal(t, term.Scale(both, n), term.Add(term.Scale(a, n), term.Scale(b, n)), numberName(n), " times the sum of ", name(a), " and ", name(b))
			}
			for _, c := range some() {
				equal(t, term.Add(both, c), term.Add(a, term.Add(b, c)), "a sum of three")
			}
		}
	}
}

// P9.5: values of sums, of multiples, and of terms with one Put in place of a variable.
func TestP9_5Values(t *testing.T) {
	for _, l := range values()[:8] {
		for _, a := range some() {
			x := term.Value(a, l)
			for _, n := range numbers() {
				equalRat(t, term.Value(term.Scale(a, n), l), rat.Mul(rat.Of(n), x), "the value of so many times ", name(a))
			}
			for _, b := range some() {
				y := term.Value(b, l)
				equalRat(t, term.Value(term.Add(a, b), l), rat.Add(x, y), "the value of the sum of ", name(a), " and ", name(b))
				for v := range 5 {
					by := append(slices.Clone(l), slices.Repeat([]api.Rat{rat.Int(0)}, max(v+1-len(l), 0))...)
					by[v] = y
					equalRat(t, term.Value(term.Put(a, v, b), l), term.Value(a, by), "the value of Put of ", v, " in ", name(a), " by ", name(b))
				}
			}
		}
	}
}

// What is handed a term that may not be says 0, or no, wherever it stands.
func TestWrong(t *testing.T) {
	right := []api.Term{{}, linear(4), linear(6, 0, 2, 1, 8, last, -2)}
	for _, x := range wrong() {
		for _, v := range variables() {
			equalInt(t, term.Coef(x, v), api.Int{}, "Coef of ", v, " in ", name(x))
			equal(t, term.Without(x, v), api.Term{}, "Without ", v, " of ", name(x))
			for _, y := range right {
				equal(t, term.Put(x, v, y), api.Term{}, "Put of ", v, " in ", name(x))
				equal(t, term.Put(y, v, x), api.Term{}, "Put of ", v, " by ", name(x), " in ", name(y))
			}
		}
		if l := term.Vars(x); len(l) != 0 {
			t.Error("Vars of", name(x), l)
		}
		equal(t, term.Scale(x, whole.Of(3)), api.Term{}, "Scale of ", name(x))
		got, is := term.Exact(x, whole.Of(1))
		refused(t, got, is, "Exact of ", name(x))
		got, is = term.Rename(x, []int{0, 1}, []int{2, 3})
		refused(t, got, is, "Rename of ", name(x))
		got, is = term.Rename(x, nil, nil)
		refused(t, got, is, "Rename by nothing of ", name(x))
		equalRat(t, term.Value(x, []api.Rat{of(1, 2), of(3, 1)}), api.Rat{Den: above([]uint32{1})}, "Value of ", name(x))
		coefs, all := term.Content(x)
		equalInt(t, coefs, api.Int{}, "the content of ", name(x))
		equalInt(t, all, api.Int{}, "the whole content of ", name(x))
		for _, y := range append(right, x) {
			wrongPair(t, x, y)
			wrongPair(t, y, x)
		}
	}
}

// wrongPair complains unless calls of two terms, of which one may not be, say 0, or no.
func wrongPair(t *testing.T, a, b api.Term) {
	t.Helper()
	what := name(a) + " and " + name(b)
	equal(t, term.Add(a, b), api.Term{}, "Add of ", what)
	equal(t, term.Sub(a, b), api.Term{}, "Sub of ", what)
	isSo(t, term.Compare(a, b), 0, "Compare of ", what)
	if term.Same(a, b) {
		t.Error("Same:", what)
	}
}

// What is handed a number that may not be says 0, or no.
func TestWrongNumbers(t *testing.T) {
	for _, n := range wrongNumbers() {
		for _, x := range all() {
			equal(t, term.Scale(x, n), api.Term{}, "Scale of ", name(x), " by ", numberName(n))
			got, is := term.Exact(x, n)
			refused(t, got, is, "Exact of ", name(x), " by ", numberName(n))
		}
	}
}

// Terms of the longest numbers are as others; what is told of them may be.
func TestLong(t *testing.T) {
	top := longest()
	least, one := whole.Neg(top), whole.Of(1)
	x := api.Term{Parts: []api.Part{{Var: 2, Coef: top}, {Var: 7, Coef: least}}, Add: least}
	equal(t, term.Add(x, x), api.Term{}, "what would be too long is 0")
	equal(t, term.Add(x, linear(1, 2, -1, 3, 1, 7, 1)), api.Term{Parts: []api.Part{{Var: 2, Coef: whole.Sub(top, one)}, part(3, 1), {Var: 7, Coef: whole.Add(least, one)}}, Add: whole.Add(least, one)}, "Add")
	equal(t, term.Sub(x, x), api.Term{}, "Sub")
	equal(t, term.Scale(x, whole.Of(-1)), api.Term{Parts: []api.Part{{Var: 2, Coef: least}, {Var: 7, Coef: top}}, Add: top}, "Scale")
	by, is := term.Exact(x, top)
	told(t, by, is, linear(-1, 2, 1, 7, -1), "Exact")
	equal(t, term.Put(linear(3, 0, 1, 2, 1), 0, x), api.Term{Parts: []api.Part{{Var: 7, Coef: least}}, Add: whole.Add(least, whole.Of(3))}, "Put, one number too long")
	coefs, all := term.Content(x)
	equalInt(t, coefs, top, "the content")
	equalInt(t, all, top, "the whole content")
	isSo(t, term.Compare(x, by), 1, "Compare")
	for _, c := range []struct {
		values []api.Rat
		want   api.Rat
	}{{nil, rat.Of(least)}, {[]api.Rat{2: rat.Int(1)}, rat.Int(0)}, {[]api.Rat{2: rat.Int(2), 7: rat.Int(2)}, rat.Of(least)}, {[]api.Rat{2: rat.Int(1), 7: rat.Int(-1)}, rat.Of(top)}, {[]api.Rat{2: rat.Int(-1), 7: rat.Int(-1)}, rat.Of(least)}, {[]api.Rat{2: {Num: one, Den: top}, 7: rat.Int(-1)}, api.Rat{Num: one, Den: one}}} {
		equalRat(t, term.Value(x, c.values), c.want, "Value by ", len(c.values))
	}
	tops, next := api.Rat{Num: one, Den: top}, api.Rat{Num: whole.Of(-1), Den: whole.Sub(top, one)}
	equalRat(t, term.Value(linear(0, 0, 1, 1, 2), []api.Rat{tops, tops}), api.Rat{Num: one, Den: number(new(big.Int).Div(value(top), big.NewInt(3)))}, "Value by the longest second numbers that are the same")
	equalRat(t, term.Value(linear(5, 0, 1, 1, 2), []api.Rat{tops, next}), rat.Int(0), "Value, its second number too long")
}

// Sums in which numbers of both signs meet are the same in whatever row they stand, also where some of them alone would be too long.
func TestLongSums(t *testing.T) {
	top := longest()
	least, half := whole.Neg(top), above(repeat(api.MaxLong, 0, 1<<31))
	for _, c := range []struct {
		coefs []api.Int
		want  api.Int
	}{{[]api.Int{top, top, least}, top}, {[]api.Int{least, least, top}, least}, {[]api.Int{top, top, least, least}, api.Int{}}, {[]api.Int{half, half, whole.Of(-1)}, top}} {
		for k := range c.coefs {
			var parts []api.Part
			var from, to []int
			for i := range c.coefs {
				parts = append(parts, api.Part{Var: i, Coef: c.coefs[(i+k)%len(c.coefs)]})
				from, to = append(from, i), append(to, 3)
			}
			want, _ := term.Of([]api.Part{{Var: 3, Coef: c.want}}, whole.Of(1))
			got, is := term.Rename(api.Term{Parts: parts, Add: whole.Of(1)}, from, to)
			told(t, got, is, want, "Rename of all to one, from ", k)
			equalRat(t, term.Value(api.Term{Parts: parts}, slices.Repeat([]api.Rat{rat.Int(1)}, 4)), rat.Of(c.want), "Value by 1, from ", k)
			for i := range parts {
				parts[i].Var = 3
			}
			got, is = term.Of(parts, whole.Of(1))
			told(t, got, is, want, "Of, from ", k)
		}
	}
}

// spareNumber is a number with something behind its end, and a look at whether all of it is as it was.
func spareNumber(x api.Int) (api.Int, func() bool) {
	behind := []uint32{9, 9, 9}
	l := slices.Concat(x.Limbs, behind)
	want := slices.Clone(l)
	return api.Int{Neg: x.Neg, Limbs: l[:len(x.Limbs)]}, func() bool { return slices.Equal(l, want) }
}

// spare is a term whose lists have something behind their end, and a look at whether all of it is as it was.
func spare(x api.Term) (api.Term, func() bool) {
	add, stays := spareNumber(x.Add)
	looks := []func() bool{stays}
	var l []api.Part
	for _, p := range x.Parts {
		coef, stays := spareNumber(p.Coef)
		l, looks = append(l, api.Part{Var: p.Var, Coef: coef}), append(looks, stays)
	}
	l = append(l, part(9, 9), part(9, 9))
	kept := slices.Clone(l)
	return api.Term{Parts: l[:len(x.Parts)], Add: add}, func() bool {
		for _, look := range looks {
			if !look() {
				return false
			}
		}
		// The limbs are held against themselves here: they have been looked at.
		return slices.EqualFunc(l, kept, samePart)
	}
}

// calls are all calls, with what they tell as terms.
func calls() map[string]func(a, b api.Term) []api.Term {
	one := func(x api.Term) []api.Term { return []api.Term{x} }
	two := func(x api.Term, _ bool) []api.Term { return []api.Term{x} }
	return map[string]func(a, b api.Term) []api.Term{
		"Of":   func(a, b api.Term) []api.Term { return two(term.Of(a.Parts, b.Add)) },
		"both": func(a, b api.Term) []api.Term { return two(term.Of(slices.Concat(a.Parts, b.Parts), a.Add)) },
		"Num":  func(a, b api.Term) []api.Term { return one(term.Num(a.Add)) },
		"Var":  func(a, b api.Term) []api.Term { return one(term.Var(len(a.Parts))) },
		"Coef": func(a, b api.Term) []api.Term {
			l := []api.Term{{Add: term.Coef(a, 0)}}
			for _, v := range term.Vars(a) {
				l = append(l, api.Term{Add: term.Coef(a, v)})
			}
			return l
		},
		"Add":     func(a, b api.Term) []api.Term { return one(term.Add(a, b)) },
		"Sub":     func(a, b api.Term) []api.Term { return one(term.Sub(a, b)) },
		"Scale":   func(a, b api.Term) []api.Term { return one(term.Scale(a, whole.Of(1))) },
		"by Add":  func(a, b api.Term) []api.Term { return one(term.Scale(a, b.Add)) },
		"Exact":   func(a, b api.Term) []api.Term { return two(term.Exact(a, whole.Of(1))) },
		"Without": func(a, b api.Term) []api.Term { return []api.Term{term.Without(a, 1), term.Without(a, -1)} },
		"Put": func(a, b api.Term) []api.Term {
			return []api.Term{term.Put(a, 0, b), term.Put(a, 2, b), term.Put(a, -1, b)}
		},
		"Rename": func(a, b api.Term) []api.Term { return two(term.Rename(a, []int{0, 1, 4}, []int{1, 0, 3})) },
		"none":   func(a, b api.Term) []api.Term { return two(term.Rename(a, nil, nil)) },
		"Value": func(a, b api.Term) []api.Term {
			x := term.Value(a, []api.Rat{{Num: b.Add, Den: whole.Of(1)}})
			return []api.Term{{Add: x.Num}, {Add: x.Den}}
		},
		"Content": func(a, b api.Term) []api.Term {
			coefs, all := term.Content(a)
			return []api.Term{{Add: coefs}, {Add: all}}
		},
		"May, Same, Compare": func(a, b api.Term) []api.Term {
			if term.May(a) && term.Same(a, b) {
				return []api.Term{linear(1)}
			}
			return []api.Term{linear(term.Compare(a, b))}
		},
	}
}

// scribble puts other limbs, and parts, into what was told, behind their ends too, and tells whether no two of all numbers share memory.
func scribble(l []api.Term) (apart bool) {
	var limbs [][]uint32
	for _, x := range l {
		limbs = append(limbs, x.Add.Limbs[:cap(x.Add.Limbs)])
		for _, p := range x.Parts {
			limbs = append(limbs, p.Coef.Limbs[:cap(p.Coef.Limbs)])
		}
		clear(x.Parts[:cap(x.Parts)])
	}
	apart = true
	for i, n := range limbs {
		others := limbs[i+1:]
		kept := make([][]uint32, len(others))
		for k, m := range others {
			kept[k] = slices.Clone(m)
		}
		for k := range n {
			n[k] ^= full
		}
		apart = apart && slices.EqualFunc(others, kept, slices.Equal)
	}
	return apart
}

// R1: what is handed in stays, also behind its end; what is told shares no memory with it, nor one number with another one.
func TestR1Memory(t *testing.T) {
	l := append(some(), wrong()[0], wrong()[7], wrong()[13], api.Term{Add: above([]uint32{1, 0})})
	for _, x := range l {
		for _, y := range l {
			for what, call := range calls() {
				a, firstStays := spare(x)
				b, secondStays := spare(y)
				if !scribble(call(a, b)) {
					t.Fatal(what, "tells two numbers that share memory:", name(x), "and", name(y))
				}
				if !firstStays() || !secondStays() {
					t.Fatal(what, "changes, or shares, what it is handed:", name(x), "and", name(y))
				}
			}
		}
	}
}

// R1: lists of variables, and of values, that are handed in stay; what is told is new each time.
func TestR1Lists(t *testing.T) {
	x := linear(7, 0, 2, 1, 3, 5, -2)
	from, to := []int{5, 0, 5, 1}, []int{1, 1, 2, 9}
	term.Rename(x, from[:2], to[:2])
	if !slices.Equal(from, []int{5, 0, 5, 1}) || !slices.Equal(to, []int{1, 1, 2, 9}) {
		t.Error("Rename changes its lists:", from, to)
	}
	l := term.Vars(x)
	l[0] = 9
	if again := term.Vars(x); !slices.Equal(again, []int{0, 1, 5}) {
		t.Error("Vars, told once more:", again)
	}
	parts := []api.Part{part(5, 1), part(0, 2), part(5, -4), part(1, 0)}
	kept := slices.Clone(parts)
	term.Of(parts, whole.Of(1))
	if !slices.EqualFunc(parts, kept, samePart) {
		t.Error("Of changes its list:", parts)
	}
	for _, by := range values() {
		kept := slices.Clone(by)
		told := term.Value(x, by)
		scribble([]api.Term{{Add: told.Num}, {Add: told.Den}})
		for k, y := range by {
			equalRat(t, y, kept[k], "a value that was handed in")
		}
	}
	one := rat.Int(1)
	told := term.Value(linear(0, 0, 1), []api.Rat{one})
	scribble([]api.Term{{Add: told.Num}, {Add: told.Den}})
	equalRat(t, one, of(1, 1), "the value 1")
}
