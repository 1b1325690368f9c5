package rat_test

import (
	"cmp"
	"fmt"
	"math"
	"math/big"
	"math/rand"
	"regexp"
	"slices"
	"strings"
	"testing"

	"alidade/api"
	"alidade/rat"
	"alidade/whole"
)

const (
	full = math.MaxUint32
	// Two quotients may have so many limbs, and no more.
	most = api.MaxLong - 2
)

// repeat is a natural of so many limbs, all the same but for the last one.
func repeat(long int, limb, last uint32) []uint32 {
	n := slices.Repeat([]uint32{limb}, long)
	n[long-1] = last
	return n
}

// mixed is a natural of so many limbs, of a fixed seed, with limbs at their edges among them.
func mixed(long, seed int) []uint32 {
	r := rand.New(rand.NewSource(int64(seed)<<32 + int64(long)))
	edges := []uint32{0, 1, full, full - 1, 1 << 31}
	n := make([]uint32, long)
	for k := range n {
		n[k] = r.Uint32()
		if e := r.Intn(16); e < len(edges) {
			n[k] = edges[e]
		}
	}
	n[long-1] |= 1
	return n
}

// above, below are the whole numbers of a natural's limbs.
func above(n []uint32) api.Int { return api.Int{Limbs: n} }
func below(n []uint32) api.Int { return api.Int{Neg: true, Limbs: n} }

// number is the whole number that one of math/big is.
func number(x *big.Int) api.Int {
	var n []uint32
	for b := x.Bytes(); len(b) > 0; b = b[:max(len(b)-4, 0)] {
		w := uint32(0)
		for _, c := range b[max(len(b)-4, 0):] {
			w = w<<8 | uint32(c)
		}
		n = append(n, w)
	}
	return api.Int{Neg: x.Sign() < 0, Limbs: n}
}

// value is a whole number as math/big has it.
func value(x api.Int) *big.Int {
	b := make([]byte, 0, 4*len(x.Limbs))
	for _, w := range slices.Backward(x.Limbs) {
		b = append(b, byte(w>>24), byte(w>>16), byte(w>>8), byte(w))
	}
	v := new(big.Int).SetBytes(b)
	if x.Neg {
		v.Neg(v)
	}
	return v
}

// quotient is the quotient that one of math/big is.
func quotient(x *big.Rat) api.Rat { return api.Rat{Num: number(x.Num()), Den: number(x.Denom())} }

// fraction is a quotient as math/big has it.
func fraction(x api.Rat) *big.Rat { return new(big.Rat).SetFrac(value(x.Num), value(x.Den)) }

// of is the quotient of two numbers, in lowest terms.
func of(num, den int64) api.Rat { return quotient(big.NewRat(num, den)) }

// wholes are short whole numbers, edges of limbs among them.
func wholes() []api.Int {
	var l []api.Int
	for _, n := range [][]uint32{nil, {1}, {2}, {3}, {4}, {6}, {7}, {12}, {1 << 31}, {full}, {0, 1}, {0, 1 << 31}, {full, full}, {0, 0, 1}, {0, 6, 3}} {
		l = append(l, above(n))
		if len(n) > 0 {
			l = append(l, below(n))
		}
	}
	return l
}

// few are quotients of short whole numbers.
func few() []api.Rat {
	seen := map[string]bool{}
	var l []api.Rat
	for _, num := range wholes() {
		for k, den := range wholes() {
			// Not all of them, as each two are tried; but those of 1, and of 2, are.
			if den.Neg || len(den.Limbs) == 0 || k > 4 && (k+len(l))%3 > 0 {
				continue
			}
			x := new(big.Rat).SetFrac(value(num), value(den))
			if s := x.String(); !seen[s] {
				seen[s] = true
				l = append(l, quotient(x))
			}
		}
	}
	return l
}

// many are quotients of longer ones, with a common divisor among them.
func many() []api.Rat {
	var l []api.Rat
	for k := range 8 {
		num, den := api.Int{Neg: k%2 == 1, Limbs: mixed(1+5*k, k)}, above(mixed(1+3*(7-k), k+8))
		l = append(l, quotient(new(big.Rat).SetFrac(value(num), value(den))), rat.Of(num), api.Rat{Num: whole.Of(1 - 2*(k%2)), Den: den})
	}
	return append(l, api.Rat{Num: above(repeat(20, full, full)), Den: above(repeat(21, 0, 1))}, api.Rat{Num: below(repeat(21, 0, 1)), Den: above(repeat(20, full, full))})
}

// all are both of them.
func all() []api.Rat { return slices.Concat(few(), many()) }

// some are fewer, of all kinds.
func some() []api.Rat {
	l := []api.Rat{of(0, 1), of(1, 1), of(-1, 1), of(2, 1), of(1, 2), of(-1, 2), of(3, 2), of(-3, 2), of(2, 3), of(-7, 6), of(5, 12), of(full, 2), of(1, math.MaxInt64), of(math.MinInt64, 3)}
	return append(l, many()[:8]...)
}

// wrongWholes are whole numbers that may not be.
func wrongWholes() []api.Int {
	return []api.Int{{Neg: true}, {Neg: true, Limbs: []uint32{}}, above([]uint32{0}), below([]uint32{0}), above([]uint32{1, 0}), below([]uint32{7, 0, 0}),
		above(repeat(api.MaxLong, 1, 0)), above(repeat(api.MaxLong+1, 0, 1)), below(repeat(api.MaxLong+1, full, full)), above(repeat(2*api.MaxLong, 3, 3))}
}

// wrong are quotients that may not be.
func wrong() []api.Rat {
	one := whole.Of(1)
	var l []api.Rat
	for _, x := range [][2]int{{0, 0}, {1, 0}, {-1, 0}, {0, 2}, {0, -1}, {0, 7}, {2, 4}, {-2, 4}, {6, 3}, {4, 4}, {1, -1}, {1, -2}, {-1, -2}, {2, -4}, {15, 35}, {math.MinInt, 2}} {
		l = append(l, api.Rat{Num: whole.Of(x[0]), Den: whole.Of(x[1])})
	}
	for _, n := range wrongWholes() {
		l = append(l, api.Rat{Num: n, Den: one}, api.Rat{Num: one, Den: n}, api.Rat{Num: whole.Of(0), Den: n}, api.Rat{Num: n, Den: n}, api.Rat{Num: n, Den: whole.Of(0)})
	}
	long, other := above(mixed(20, 1)), above(mixed(30, 2))
	l = append(l, api.Rat{Num: long, Den: long}, api.Rat{Num: long, Den: whole.Of(0)}, api.Rat{Num: whole.Of(0), Den: long}, api.Rat{Num: long, Den: whole.Neg(other)})
	return append(l, api.Rat{Num: whole.Mul(long, whole.Of(-3)), Den: whole.Mul(other, whole.Of(3))}, api.Rat{}, api.Rat{Num: one}, api.Rat{Den: below([]uint32{1})})
}

// name tells a quotient briefly.
func name(x api.Rat) string { return part(x.Num) + " of " + part(x.Den) }

// part tells a whole number briefly.
func part(x api.Int) string {
	sign := ""
	if x.Neg {
		sign = "-"
	}
	if n := x.Limbs; len(n) > 8 {
		return fmt.Sprintf("%s[%d %d .. %d, %d limbs]", sign, n[0], n[1], n[len(n)-1], len(n))
	}
	return fmt.Sprint(sign, x.Limbs)
}

// brief tells a text briefly.
func brief(s string) string {
	if len(s) > 60 {
		return fmt.Sprintf("%q .. %q, %d bytes", s[:20], s[len(s)-20:], len(s))
	}
	return fmt.Sprintf("%q", s)
}

// same tells whether two whole numbers are the same.
func same(a, b api.Int) bool { return a.Neg == b.Neg && slices.Equal(a.Limbs, b.Limbs) }

// equal complains unless two are the same quotient, number by number.
func equal(t *testing.T, got, want api.Rat, what ...any) {
	t.Helper()
	if !same(got.Num, want.Num) || !same(got.Den, want.Den) {
		t.Errorf("%s: got %s, want %s", fmt.Sprint(what...), name(got), name(want))
	}
}

// equalInt complains unless two are the same whole number.
func equalInt(t *testing.T, got, want api.Int, what ...any) {
	t.Helper()
	if !same(got, want) {
		t.Errorf("%s: got %s, want %s", fmt.Sprint(what...), part(got), part(want))
	}
}

// isSo complains unless a number is the one that is wanted.
func isSo(t *testing.T, got, want int, what ...any) {
	t.Helper()
	if got != want {
		t.Errorf("%s: got %d, want %d", fmt.Sprint(what...), got, want)
	}
}

// told complains unless a quotient is told without an error.
func told(t *testing.T, x api.Rat, e api.Errno, want api.Rat, what ...any) {
	t.Helper()
	if e != api.OK {
		t.Errorf("%s: %v", fmt.Sprint(what...), e)
	}
	equal(t, x, want, what...)
}

// refused complains unless an error is told, and nothing else.
func refused(t *testing.T, x api.Rat, e, want api.Errno, what ...any) {
	t.Helper()
	if e != want {
		t.Errorf("%s: got %v, want %v", fmt.Sprint(what...), e, want)
	}
	equal(t, x, api.Rat{}, what...)
}

func TestExamples(t *testing.T) {
	x, e := rat.Make(whole.Of(6), whole.Of(-4))
	told(t, x, e, api.Rat{Num: below([]uint32{3}), Den: above([]uint32{2})}, "Make of 6, -4")
	equal(t, rat.Add(of(1, 2), of(1, 3)), of(5, 6), "1/2 and 1/3")
	isSo(t, rat.Cmp(of(1, 2), of(2, 3)), -1, "Cmp of 1/2 and 2/3")
	equalInt(t, rat.Floor(of(-3, 2)), whole.Of(-2), "Floor of -3/2")
	equalInt(t, rat.Ceil(of(-3, 2)), whole.Of(-1), "Ceil of -3/2")
	if s := rat.Show(of(4, 2)); s != "2" {
		t.Error("Show of 4/2:", s)
	}
	for _, s := range []string{"2/4", "1/1", "1/0"} {
		x, e := rat.Parse(s)
		refused(t, x, e, api.ErrForm, "Parse of ", s)
	}
	x, e = rat.Decimal("1.250")
	told(t, x, e, of(5, 4), "Decimal of 1.250")
	for _, s := range []string{"1.", ".5", "01"} {
		x, e := rat.Decimal(s)
		refused(t, x, e, api.ErrForm, "Decimal of ", s)
	}
	equal(t, rat.Middle(of(1, 1), of(2, 1)), of(3, 2), "Middle of 1 and 2")
}

// longest are quotients with as many limbs as there may be in one.
func longest() []api.Rat {
	top := above(repeat(api.MaxLong, full, full))
	return []api.Rat{rat.Of(top), rat.Of(whole.Neg(top)), {Num: whole.Of(1), Den: top}, {Num: whole.Of(-2), Den: top}, {Num: top, Den: whole.Of(2)},
		{Num: top, Den: whole.Sub(top, whole.Of(1))}, {Num: whole.Sub(whole.Of(1), top), Den: top}}
}

// P8.1: which quotients may be.
func TestP8_1May(t *testing.T) {
	for _, x := range slices.Concat(all(), longest()) {
		if !rat.May(x) {
			t.Error("may be:", name(x))
		}
	}
	for _, x := range wrong() {
		if rat.May(x) {
			t.Error("may not be:", name(x))
		}
	}
	for num := -40; num <= 40; num++ {
		for den := -40; den <= 40; den++ {
			x := api.Rat{Num: whole.Of(num), Den: whole.Of(den)}
			if is := den > 0 && same(of(int64(num), int64(den)).Den, x.Den); rat.May(x) != is {
				t.Error("May:", num, den)
			}
		}
	}
}

// P8.1: quotients of whole numbers, which need be in no terms.
func TestP8_1Make(t *testing.T) {
	l := wholes()
	for k := range 12 {
		common := above(mixed(1+k, 20))
		l = append(l, whole.Mul(common, above(mixed(3, k))), whole.Mul(common, below(mixed(13-k, k))))
	}
	for _, num := range l {
		for _, den := range l {
			x, e := rat.Make(num, den)
			if len(den.Limbs) == 0 {
				refused(t, x, e, api.ErrZero, "Make of ", part(num), " by 0")
				continue
			}
			told(t, x, e, quotient(new(big.Rat).SetFrac(value(num), value(den))), "Make of ", part(num), ", ", part(den))
		}
	}
}

// Make's errors, and what goes ahead of what.
func TestMakeErrors(t *testing.T) {
	long, zero := above(repeat(api.MaxLong, 5, 5)), whole.Of(0)
	for _, n := range wrongWholes() {
		for _, m := range slices.Concat(wrongWholes(), []api.Int{zero, whole.Of(1), whole.Of(-2), long}) {
			x, e := rat.Make(n, m)
			refused(t, x, e, api.ErrForm, "Make of ", part(n), ", ", part(m))
			x, e = rat.Make(m, n)
			refused(t, x, e, api.ErrForm, "Make of ", part(m), ", ", part(n))
		}
	}
	x, e := rat.Make(long, zero)
	refused(t, x, e, api.ErrZero, "Make of the longest, by 0")
	for _, first := range []int{0, 1, 2, most / 3, most / 2, most - 2, most - 1} {
		num := api.Int{Neg: first > 2, Limbs: repeat(first+1, 0, 1)[:first]}
		if first > 0 {
			num.Limbs[first-1] = 6
		}
		// Both are multiples of 2, and of what the shorter one has of limbs that are 0.
		den := below(repeat(most-first, 0, 4))
		x, e = rat.Make(num, den)
		told(t, x, e, quotient(new(big.Rat).SetFrac(value(num), value(den))), "Make of so many limbs: ", first)
		x, e = rat.Make(num, below(repeat(most-first+1, 0, 4)))
		refused(t, x, e, api.ErrTooLarge, "Make of one limb too many, ", first)
	}
}

// P8.1: whole ones.
func TestP8_1Of(t *testing.T) {
	edges := []int{0, 1, -1, 2, math.MinInt, math.MinInt + 1, math.MaxInt, full, full + 1, -full, -full - 1}
	for _, n := range edges {
		equal(t, rat.Int(n), api.Rat{Num: number(big.NewInt(int64(n))), Den: above([]uint32{1})}, "Int ", n)
	}
	for _, n := range append(wholes(), above(mixed(50, 1)), below(repeat(api.MaxLong, full, full))) {
		equal(t, rat.Of(n), api.Rat{Num: n, Den: above([]uint32{1})}, "Of ", part(n))
	}
	for _, n := range wrongWholes() {
		equal(t, rat.Of(n), rat.Int(0), "Of what may not be ", part(n))
	}
}

// check holds all calls of two quotients against math/big.
func check(t *testing.T, a, b api.Rat) {
	t.Helper()
	x, y, z := fraction(a), fraction(b), new(big.Rat)
	what := name(a) + ", " + name(b)
	isSo(t, rat.Cmp(a, b), x.Cmp(y), "Cmp of ", what)
	equal(t, rat.Add(a, b), quotient(z.Add(x, y)), "Add of ", what)
	equal(t, rat.Middle(a, b), quotient(z.Mul(z, big.NewRat(1, 2))), "Middle of ", what)
	equal(t, rat.Sub(a, b), quotient(z.Sub(x, y)), "Sub of ", what)
	equal(t, rat.Mul(a, b), quotient(z.Mul(x, y)), "Mul of ", what)
	q, e := rat.Div(a, b)
	if y.Sign() == 0 {
		refused(t, q, e, api.ErrZero, "Div of ", what)
		return
	}
	told(t, q, e, quotient(z.Quo(x, y)), "Div of ", what)
}

// P8.1: each two.
func TestP8_1Two(t *testing.T) {
	for _, a := range all() {
		for _, b := range all() {
			check(t, a, b)
		}
	}
}

// P8.1: small ones, all of them, by numbers alone.
func TestP8_1Small(t *testing.T) {
	for p := int64(-6); p <= 6; p++ {
		for q := int64(1); q <= 6; q++ {
			for r := int64(-6); r <= 6; r++ {
				for s := int64(1); s <= 6; s++ {
					a, b := of(p, q), of(r, s)
					isSo(t, rat.Cmp(a, b), cmp.Compare(p*s, r*q), "Cmp ", p, q, r, s)
					equal(t, rat.Add(a, b), of(p*s+r*q, q*s), "Add ", p, q, r, s)
					equal(t, rat.Sub(a, b), of(p*s-r*q, q*s), "Sub ", p, q, r, s)
					equal(t, rat.Mul(a, b), of(p*r, q*s), "Mul ", p, q, r, s)
					equal(t, rat.Middle(a, b), of(p*s+r*q, 2*q*s), "Middle ", p, q, r, s)
					if r != 0 {
						x, e := rat.Div(a, b)
						told(t, x, e, of(p*s, q*r), "Div ", p, q, r, s)
					}
				}
			}
		}
	}
}

// P8.1: of one.
func TestP8_1One(t *testing.T) {
	for _, x := range slices.Concat(all(), longest()) {
		isSo(t, rat.Sign(x), fraction(x).Sign(), "Sign of ", name(x))
		equal(t, rat.Neg(x), quotient(new(big.Rat).Neg(fraction(x))), "Neg of ", name(x))
	}
}

// limbs tells how many limbs two quotients have together.
func limbs(a, b api.Rat) int {
	return len(a.Num.Limbs) + len(a.Den.Limbs) + len(b.Num.Limbs) + len(b.Den.Limbs)
}

// P8.1: as long as two may be; what is told may have more limbs.
func TestP8_1Long(t *testing.T) {
	half := most / 2
	top, power := above(repeat(half-1, full, full)), above(repeat(half-1, 0, 1<<31))
	short, long := above([]uint32{full, full}), above(repeat(most-4, full, full))
	for _, x := range [][2]api.Rat{
		{rat.Of(top), rat.Of(whole.Neg(top))},
		{rat.Of(above(repeat(most-2, full, full))), rat.Int(0)},
		{rat.Of(long), {Num: whole.Of(-1), Den: above([]uint32{full})}},
		{{Num: whole.Of(-2), Den: long}, {Num: whole.Of(1), Den: above([]uint32{full})}},
		{{Num: whole.Of(1), Den: long}, rat.Of(above([]uint32{full}))},
		{{Num: above(repeat(most-5, full, full)), Den: whole.Of(4)}, {Num: whole.Of(4), Den: short}},
	} {
		x[0], x[1] = quotient(fraction(x[0])), quotient(fraction(x[1]))
		check(t, x[0], x[1])
		check(t, x[1], x[0])
		if n := limbs(x[0], x[1]); n > most || n < most-1 {
			t.Error("so many limbs:", n, name(x[0]), name(x[1]))
		}
	}
	x := api.Rat{Num: whole.Of(-1), Den: power}
	isSo(t, limbs(x, x), most, "limbs")
	isSo(t, rat.Cmp(x, rat.Neg(x)), -1, "Cmp of long second numbers")
	equal(t, rat.Add(x, x), quotient(new(big.Rat).Add(fraction(x), fraction(x))), "Add of long second numbers")
	a, b := rat.Of(top), api.Rat{Num: whole.Of(1), Den: power}
	sum := rat.Add(a, b)
	if long := len(sum.Num.Limbs) + len(sum.Den.Limbs); long <= api.MaxLong || !rat.May(sum) {
		t.Error("a long sum:", long)
	}
}

// two are the calls that make one quotient of two, and tell no error.
func two() map[string]func(a, b api.Rat) api.Rat {
	return map[string]func(a, b api.Rat) api.Rat{"Add": rat.Add, "Sub": rat.Sub, "Mul": rat.Mul, "Middle": rat.Middle}
}

// nothing complains unless all calls of two, that tell no error, say 0.
func nothing(t *testing.T, a, b api.Rat) {
	t.Helper()
	for what, call := range two() {
		equal(t, call(a, b), api.Rat{Den: above([]uint32{1})}, what, " of ", name(a), ", ", name(b))
	}
	isSo(t, rat.Cmp(a, b), 0, "Cmp of ", name(a), ", ", name(b))
}

// Two that are too long, however their limbs are spread.
func TestTooLong(t *testing.T) {
	third := most / 3
	for _, x := range [][2]api.Rat{
		{rat.Of(above(repeat(most-1, full, full))), rat.Int(0)},
		{rat.Of(below(repeat(most-2, full, full))), rat.Int(1)},
		{rat.Of(above(repeat(third, 7, 7))), rat.Of(below(repeat(most-1-third, 7, 7)))},
		{{Num: whole.Of(1), Den: above(repeat(third, 7, 7))}, {Num: whole.Of(-1), Den: above(repeat(most-1-third, 7, 7))}},
		{rat.Of(above(repeat(third, 7, 7))), {Num: whole.Of(5), Den: above(repeat(most-1-third, 7, 7))}},
		{longest()[0], longest()[1]},
		{longest()[4], rat.Int(2)},
		{longest()[5], longest()[6]},
	} {
		for _, z := range [][2]api.Rat{{x[0], x[1]}, {x[1], x[0]}} {
			nothing(t, z[0], z[1])
			q, e := rat.Div(z[0], z[1])
			if rat.Sign(z[1]) == 0 {
				refused(t, q, e, api.ErrZero, "Div by 0 of ", name(z[0]))
				continue
			}
			refused(t, q, e, api.ErrTooLarge, "Div of ", name(z[0]), ", ", name(z[1]))
		}
	}
	isSo(t, limbs(rat.Of(above(repeat(third, 7, 7))), rat.Of(below(repeat(most-1-third, 7, 7)))), most+1, "limbs")
}

// What is handed a quotient that may not be says 0, no, or nothing, wherever that stands.
func TestWrong(t *testing.T) {
	right := []api.Rat{of(0, 1), of(1, 1), of(-3, 2), of(1, math.MaxInt64), many()[0], longest()[0]}
	for _, x := range wrong() {
		isSo(t, rat.Sign(x), 0, "Sign of ", name(x))
		equal(t, rat.Neg(x), rat.Int(0), "Neg of ", name(x))
		equalInt(t, rat.Floor(x), api.Int{}, "Floor of ", name(x))
		equalInt(t, rat.Ceil(x), api.Int{}, "Ceil of ", name(x))
		n, is := rat.Whole(x)
		equalInt(t, n, api.Int{}, "Whole of ", name(x))
		if is || rat.Show(x) != "" {
			t.Error("of what may not be:", name(x), is, brief(rat.Show(x)))
		}
		for _, y := range slices.Concat(right, wrong()) {
			for _, z := range [][2]api.Rat{{x, y}, {y, x}} {
				nothing(t, z[0], z[1])
				q, e := rat.Div(z[0], z[1])
				refused(t, q, e, api.ErrForm, "Div of ", name(z[0]), ", ", name(z[1]))
			}
		}
	}
}

// P8.2, P8.5: rounded down, and up; which are whole.
func TestP8_2Rounded(t *testing.T) {
	for _, x := range slices.Concat(all(), longest()) {
		num, den := value(x.Num), value(x.Den)
		// Div of math/big rounds down, as den is above 0.
		down := new(big.Int).Div(num, den)
		up := new(big.Int).Neg(new(big.Int).Div(new(big.Int).Neg(num), den))
		equalInt(t, rat.Floor(x), number(down), "Floor of ", name(x))
		equalInt(t, rat.Ceil(x), number(up), "Ceil of ", name(x))
		n, is := rat.Whole(x)
		if is != (down.Cmp(up) == 0) {
			t.Error("Whole of", name(x), is)
		}
		if is {
			equalInt(t, n, number(down), "Whole of ", name(x))
		} else {
			equalInt(t, n, api.Int{}, "Whole of ", name(x))
		}
	}
}

// P8.2: what is shown.
func TestP8_2Show(t *testing.T) {
	l := append(all(), quotient(new(big.Rat).SetFrac(value(below(mixed(700, 1))), value(above(mixed(900, 2))))), rat.Of(below(mixed(2000, 3))))
	for _, x := range l {
		if s, want := rat.Show(x), fraction(x).RatString(); s != want {
			t.Errorf("Show of %s: %s, not %s", name(x), brief(s), brief(want))
		}
	}
}

// texts tells all texts of these bytes, so long at most.
func texts(alphabet string, long int) []string {
	l := []string{""}
	for from, k := 0, 0; k < long; k++ {
		end := len(l)
		for _, s := range l[from:end] {
			for _, c := range []byte(alphabet) {
				l = append(l, s+string(c))
			}
		}
		from = end
	}
	return l
}

// odd are texts of neither kind.
func odd() []string {
	return []string{" 1", "1 ", "1\n", "\t1", "1 /2", "1/ 2", "1//2", "1/2/3", "/", "/2", "1/", "-/2", "-", "--1", "-+1", "+1", "1/+2", "1/-2", "-1/-2", "1/02", "01/2", "-01", "-0", "-0/1", "-0/2", "0/1", "0/2", "0/0",
		"00", "1_000", "0x10", "1e3", "1E3", "1/2e3", "0b1", "1.5/2", "1/2.5", "1,5", "1.2.3", "1..2", ".", "..", "1.-5", "1.+5", "-1.5", "+1.5", "1. 5", "1.5 ", "1.5a", "a1.5", "00.5", "01.5", "inf", "NaN", "one",
		"\x00", "1\x00", "1/2\x00", "1.5\x00", "\xff", "1\xff", "٣", "1/٣", "1.٣", "½", "１", "1．5", "1∕2", strings.Repeat("1", 100) + "x", strings.Repeat("9", 100) + "/" + strings.Repeat("3", 50)}
}

// P8.2, P8.6: which texts are quotients'.
func TestP8_2Parse(t *testing.T) {
	form := regexp.MustCompile(`\A(0|-?[1-9][0-9]*)(/[1-9][0-9]*)?\z`)
	for _, s := range slices.Concat(texts("01268-/.", 5), texts("0123456789+-/.: ", 3), odd()) {
		x, e := rat.Parse(s)
		v, is := new(big.Rat), form.MatchString(s)
		if is {
			v.SetString(s)
		}
		// A text in other terms is not what is shown.
		if !is || v.RatString() != s {
			refused(t, x, e, api.ErrForm, "Parse of ", brief(s))
			continue
		}
		told(t, x, e, quotient(v), "Parse of ", brief(s))
		if back := rat.Show(x); back != s {
			t.Error("shown:", s, back)
		}
	}
}

// P8.6: what is shown is parsed as it was.
func TestP8_6There(t *testing.T) {
	l := append(all(), quotient(new(big.Rat).SetFrac(value(below(mixed(300, 4))), value(above(mixed(250, 5))))))
	for _, x := range l {
		back, e := rat.Parse(rat.Show(x))
		told(t, back, e, x, "Parse of Show of ", name(x))
	}
}

// P8.2, P8.6: which texts are decimals'; times the power of ten of its places one is its digits.
func TestP8_2Decimal(t *testing.T) {
	form := regexp.MustCompile(`\A(0|[1-9][0-9]*)(\.[0-9]+)?\z`)
	long := []string{strings.Repeat("7", 300), "0." + strings.Repeat("0", 200), "0." + strings.Repeat("0", 200) + "25", strings.Repeat("5", 100) + "." + strings.Repeat("125", 60), "18446744073709551616.18446744073709551616"}
	for _, s := range slices.Concat(texts("0125.-/", 6), texts("0123456789+-/.: ", 3), odd(), long) {
		x, e := rat.Decimal(s)
		if !form.MatchString(s) {
			refused(t, x, e, api.ErrForm, "Decimal of ", brief(s))
			continue
		}
		v, _ := new(big.Rat).SetString(s)
		told(t, x, e, quotient(v), "Decimal of ", brief(s))
		_, places, _ := strings.Cut(s, ".")
		digits, _ := new(big.Int).SetString(strings.Replace(s, ".", "", 1), 10)
		ten := new(big.Int).Exp(big.NewInt(10), big.NewInt(int64(len(places))), nil)
		equal(t, rat.Mul(x, rat.Of(number(ten))), rat.Of(number(digits)), "the power of ten times ", brief(s))
	}
}

// tens tells the greatest k by which 10^k has so many limbs at most.
func tens(limbs int) int {
	k := int(float64(32*limbs) * math.Log10(2))
	for n := new(big.Int).Exp(big.NewInt(10), big.NewInt(int64(k)), nil); n.BitLen() > 32*limbs; k-- {
		n.Quo(n, big.NewInt(10))
	}
	return k
}

// ten is the text of 10^k.
func ten(k int) string { return "1" + strings.Repeat("0", k) }

// Texts of quotients that are as long as may be, and of ones whose numbers may be, but are too long together.
func TestParseLong(t *testing.T) {
	top, half, last := tens(most-1), tens(most/2), tens(api.MaxLong)
	odd := "1" + strings.Repeat("0", half-1) + "3"
	for _, s := range []string{ten(top), "-" + ten(top), "-7/" + ten(top), ten(half) + "/" + odd} {
		x, e := rat.Parse(s)
		v, _ := new(big.Rat).SetString(s)
		told(t, x, e, quotient(v), "Parse of ", brief(s))
	}
	for _, s := range []string{ten(top + 1), "-" + ten(top+1), ten(last), "-" + ten(last), "1/" + ten(last), ten(last) + "/7", ten(top) + "/4294967311", "-4294967311/" + ten(top), ten(half+1) + "/" + odd} {
		x, e := rat.Parse(s)
		refused(t, x, e, api.ErrTooLarge, "Parse of ", brief(s))
	}
	// What is no text, or not in lowest terms, is ErrForm, too long or not.
	for _, s := range []string{ten(top) + "/5", ten(top) + "/" + ten(top), ten(half+1) + "/" + ten(half), "0/" + ten(top), ten(last) + "/2", ten(last) + "/" + ten(last), "0/" + ten(last), "0" + ten(last), ten(last) + "/0", ten(last) + "/1", ten(last) + "/-3", ten(last) + "/03", "-0/" + ten(last), ten(last) + " ", ten(last) + "/"} {
		x, e := rat.Parse(s)
		refused(t, x, e, api.ErrForm, "Parse of ", brief(s))
	}
}

// Digits of more limbs than there may be are no whole number's text, so none of a quotient, in lowest terms or not.
func TestParseNoNumber(t *testing.T) {
	over, end := tens(api.MaxLong)+1, new(big.Int).Lsh(big.NewInt(1), 32*api.MaxLong)
	greatest := new(big.Int).Sub(end, big.NewInt(1)).String()
	for _, s := range []string{greatest, "-" + greatest, "1/" + greatest, greatest + "/2"} {
		x, e := rat.Parse(s)
		refused(t, x, e, api.ErrTooLarge, "Parse of ", brief(s))
	}
	var l []string
	for _, long := range []string{ten(over), end.String(), ten(over + 10000), strings.Repeat("9", over+10000)} {
		l = append(l, long, "-"+long, "1/"+long, long+"/7", "0/"+long)
	}
	long := ten(over + 10000)
	// In lowest terms, not in them, and no text but for its length.
	l = append(l, "-7/"+long, "-"+long+"/3", long+"/"+long+"7", long+"/"+greatest, greatest+"/"+long)
	l = append(l, "4/"+long, "-5/"+long, long+"/2", "-"+long+"/5", long+"/"+long, long+"/"+long+"0", long+"0/"+long)
	l = append(l, "0"+long, long+"/0", long+"/1", long+"/-3", long+"/03", "-0/"+long, long+" ", long+"/", "/"+long, "x/"+long)
	for _, s := range l {
		x, e := rat.Parse(s)
		refused(t, x, e, api.ErrForm, "Parse of ", brief(s))
	}
}

// Decimals whose digits and power of ten are as long as may be, and too long.
func TestDecimalLong(t *testing.T) {
	top, half, over := tens(most-1), tens(most/2), tens(api.MaxLong)+1
	for s, want := range map[string]api.Rat{
		"1." + strings.Repeat("0", half):           rat.Int(1),
		"25" + strings.Repeat("0", half-10) + ".0": rat.Of(number(new(big.Int).Mul(big.NewInt(25), new(big.Int).Exp(big.NewInt(10), big.NewInt(int64(half-10)), nil)))),
		"0." + strings.Repeat("0", tens(most)):     rat.Int(0),
		ten(top):                                   rat.Of(number(new(big.Int).Exp(big.NewInt(10), big.NewInt(int64(top)), nil))),
		"0." + strings.Repeat("0", top-1) + "1":    {Num: whole.Of(1), Den: number(new(big.Int).Exp(big.NewInt(10), big.NewInt(int64(top)), nil))},
		"3." + strings.Repeat("0", half-10):        rat.Int(3),
	} {
		x, e := rat.Decimal(s)
		told(t, x, e, want, "Decimal of ", brief(s))
	}
	for _, s := range []string{"1." + strings.Repeat("0", half+1), "0." + strings.Repeat("0", tens(most)+1), ten(top + 1), ten(top) + "." + strings.Repeat("0", 20), "0." + strings.Repeat("0", top) + "1", "0." + strings.Repeat("0", over), ten(over), ten(over) + ".5"} {
		x, e := rat.Decimal(s)
		refused(t, x, e, api.ErrTooLarge, "Decimal of ", brief(s))
	}
	for _, s := range []string{"0" + ten(over), ten(over) + ".", "." + ten(over), "-" + ten(over), ten(over) + ".5.5", ten(over) + ".5x", ten(over) + "x"} {
		x, e := rat.Decimal(s)
		refused(t, x, e, api.ErrForm, "Decimal of ", brief(s))
	}
}

// P8.3: sums and products are the same turned about, and wherever they are begun; of sums; Sub undoes Add, Div undoes Mul.
func TestP8_3Field(t *testing.T) {
	for _, a := range some() {
		for _, b := range some() {
			sum, product := rat.Add(a, b), rat.Mul(a, b)
			equal(t, rat.Add(b, a), sum, "a sum turned about ", name(a), ", ", name(b))
			equal(t, rat.Mul(b, a), product, "a product turned about ", name(a), ", ", name(b))
			equal(t, rat.Sub(sum, b), a, "Sub undoes Add ", name(a), ", ", name(b))
			equal(t, rat.Add(rat.Sub(a, b), b), a, "Add undoes Sub ", name(a), ", ", name(b))
			if rat.Sign(b) != 0 {
				q, e := rat.Div(product, b)
				told(t, q, e, a, "Div undoes Mul ", name(a), ", ", name(b))
			}
			for _, c := range some() {
				equal(t, rat.Add(sum, c), rat.Add(a, rat.Add(b, c)), "a sum of three")
				equal(t, rat.Mul(product, c), rat.Mul(a, rat.Mul(b, c)), "a product of three")
				equal(t, rat.Mul(sum, c), rat.Add(rat.Mul(a, c), rat.Mul(b, c)), "a product of a sum")
			}
		}
	}
}

// P8.4: Cmp is a row, and the Sign of the difference; a Middle is between.
func TestP8_4Order(t *testing.T) {
	l := all()
	slices.SortFunc(l, func(a, b api.Rat) int { return fraction(a).Cmp(fraction(b)) })
	l = slices.CompactFunc(l, func(a, b api.Rat) bool { return fraction(a).Cmp(fraction(b)) == 0 })
	for i, a := range l {
		for j, b := range l {
			isSo(t, rat.Cmp(a, b), cmp.Compare(i, j), "Cmp of ", name(a), ", ", name(b))
			isSo(t, rat.Sign(rat.Sub(a, b)), cmp.Compare(i, j), "Sign of the difference of ", name(a), ", ", name(b))
			middle := rat.Middle(a, b)
			isSo(t, rat.Cmp(a, middle), cmp.Compare(i, j), "the first one, and the Middle, of ", name(a), ", ", name(b))
			isSo(t, rat.Cmp(middle, b), cmp.Compare(i, j), "the Middle, and the second one, of ", name(a), ", ", name(b))
		}
	}
}

// P8.5: Floor is at most the quotient, and less than it by less than 1; Ceil by Neg; both are the same just of whole ones.
func TestP8_5Whole(t *testing.T) {
	for _, x := range all() {
		down := rat.Floor(x)
		if rat.Cmp(rat.Of(down), x) > 0 || rat.Cmp(x, rat.Of(whole.Add(down, whole.Of(1)))) >= 0 {
			t.Error("Floor of", name(x), part(down))
		}
		up := rat.Ceil(x)
		equalInt(t, up, whole.Neg(rat.Floor(rat.Neg(x))), "Ceil of ", name(x))
		if _, is := rat.Whole(x); is != (whole.Cmp(up, down) == 0) {
			t.Error("Whole of", name(x), is)
		}
	}
}

// spare is a quotient whose numbers have something behind their end, and a look at whether all of it is as it was.
func spare(x api.Rat) (api.Rat, func() bool) {
	behind := []uint32{9, 9, 9}
	num, den := slices.Concat(x.Num.Limbs, behind), slices.Concat(x.Den.Limbs, behind)
	y := api.Rat{Num: api.Int{Neg: x.Num.Neg, Limbs: num[:len(x.Num.Limbs)]}, Den: api.Int{Neg: x.Den.Neg, Limbs: den[:len(x.Den.Limbs)]}}
	return y, func() bool {
		return slices.Equal(num, slices.Concat(x.Num.Limbs, behind)) && slices.Equal(den, slices.Concat(x.Den.Limbs, behind))
	}
}

// scribbled has other limbs than before, behind its end too.
func scribbled(x api.Int) {
	l := x.Limbs[:cap(x.Limbs)]
	for k := range l {
		l[k] ^= full
	}
}

// memoryCalls are all calls that are handed quotients and tell numbers.
func memoryCalls() map[string]func(a, b api.Rat) []api.Int {
	pair := func(x api.Rat) []api.Int { return []api.Int{x.Num, x.Den} }
	calls := map[string]func(a, b api.Rat) []api.Int{
		"Neg":   func(a, b api.Rat) []api.Int { return pair(rat.Neg(a)) },
		"Of":    func(a, b api.Rat) []api.Int { return pair(rat.Of(a.Num)) },
		"Floor": func(a, b api.Rat) []api.Int { return []api.Int{rat.Floor(a)} },
		"Ceil":  func(a, b api.Rat) []api.Int { return []api.Int{rat.Ceil(a)} },
		"Whole": func(a, b api.Rat) []api.Int {
			n, _ := rat.Whole(a)
			return []api.Int{n}
		},
		"Make": func(a, b api.Rat) []api.Int {
			x, _ := rat.Make(a.Num, b.Den)
			return pair(x)
		},
		"Div": func(a, b api.Rat) []api.Int {
			x, _ := rat.Div(a, b)
			return pair(x)
		},
		"Sign, Cmp, Show, May": func(a, b api.Rat) []api.Int {
			return []api.Int{whole.Of(rat.Sign(a) + rat.Cmp(a, b) + len(rat.Show(b))), whole.Of(map[bool]int{true: 1}[rat.May(a)])}
		},
	}
	for what, call := range two() {
		calls[what] = func(a, b api.Rat) []api.Int { return pair(call(a, b)) }
	}
	return calls
}

// R1: what is handed in stays, also behind its end; what is told shares no memory with it, nor one number with another one.
func TestR1Memory(t *testing.T) {
	l := slices.Concat(some(), many(), []api.Rat{{}, {Num: whole.Of(2), Den: whole.Of(4)}, {Num: below([]uint32{1, 0}), Den: whole.Of(1)}})
	for _, x := range l {
		for _, y := range l {
			for what, call := range memoryCalls() {
				a, firstStays := spare(x)
				b, secondStays := spare(y)
				told := call(a, b)
				for i, one := range told {
					other := told[(i+1)%len(told)].Limbs
					kept := slices.Clone(other)
					scribbled(one)
					if len(told) > 1 && !slices.Equal(other, kept) {
						t.Fatal(what, "tells two numbers that share memory:", name(x), name(y))
					}
				}
				if !firstStays() || !secondStays() {
					t.Fatal(what, "changes, or shares, what it is handed:", name(x), name(y))
				}
			}
		}
	}
}

// R1: what texts are parsed to is new, each time.
func TestR1Texts(t *testing.T) {
	for _, s := range []string{"-7/3", "12", "0", "1/18446744073709551616"} {
		first, _ := rat.Parse(s)
		scribbled(first.Num)
		scribbled(first.Den)
		if second, e := rat.Parse(s); e != api.OK || rat.Show(second) != s {
			t.Error("parsed once more:", s, e)
		}
	}
	for _, s := range []string{"12.5", "0.0", "3"} {
		first, _ := rat.Decimal(s)
		want := fraction(first)
		scribbled(first.Num)
		scribbled(first.Den)
		second, e := rat.Decimal(s)
		told(t, second, e, quotient(want), "Decimal once more of ", s)
	}
}
