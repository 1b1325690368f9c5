package gcd_test

import (
	"fmt"
	"math"
	"math/big"
	"math/rand"
	"slices"
	"testing"

	"alidade/api"
	"alidade/gcd"
	"alidade/whole"
)

const full = math.MaxUint32

// repeat is a natural of so many limbs, all the same but for the last one.
func repeat(long int, limb, last uint32) []uint32 {
	n := slices.Repeat([]uint32{limb}, long)
	n[long-1] = last
	return n
}

// mixed is a natural of so many limbs, of a fixed seed, with limbs at their edges among them.
func mixed(long, seed int) []uint32 {
	r := rand.New(rand.NewSource(int64(seed)<<32 + int64(long)))
	edges := []uint32{0, 1, full, full - 1, 1 << 31}
	n := make([]uint32, long)
	for k := range n {
		n[k] = r.Uint32()
		if e := r.Intn(16); e < len(edges) {
			n[k] = edges[e]
		}
	}
	n[long-1] |= 1
	return n
}

// both are naturals, and the same ones below 0.
func both(naturals ...[]uint32) []api.Int {
	var l []api.Int
	for _, n := range naturals {
		l = append(l, api.Int{Limbs: n})
		if len(n) > 0 {
			l = append(l, api.Int{Neg: true, Limbs: n})
		}
	}
	return l
}

// few are short whole numbers, edges of limbs, and of heads, among them.
func few() []api.Int {
	return both(nil, []uint32{1}, []uint32{2}, []uint32{6}, []uint32{7}, []uint32{30}, []uint32{1 << 31}, []uint32{full}, []uint32{0, 1},
		[]uint32{1, 1}, []uint32{full, 1<<28 - 1}, []uint32{0, 1 << 28}, []uint32{0, 1 << 31}, []uint32{full, full}, []uint32{0, 0, 1}, mixed(2, 1), mixed(3, 1))
}

// many are longer ones.
func many() []api.Int {
	var l []api.Int
	for k := range 8 {
		l = append(l, number(value(api.Int{Neg: k%2 == 1, Limbs: mixed(4+3*k, 2)})))
	}
	return append(l, both(mixed(40, 2), mixed(41, 2), mixed(100, 2), repeat(60, full, full), repeat(61, 0, 1), repeat(30, 0, 6))...)
}

// all are the short ones, and the longer ones.
func all() []api.Int { return slices.Concat(few(), many()) }

// two are two whole numbers.
type two [2]api.Int

// row are the numbers of which Euclid's steps have these quotients: the last one first.
func row(g *big.Int, quotients ...int64) two {
	a, b := new(big.Int).Set(g), new(big.Int)
	for _, q := range quotients {
		next := new(big.Int).Mul(a, big.NewInt(q))
		a, b = next.Add(next, b), a
	}
	return two{number(a), number(b)}
}

// near are each two whose quotients are all small, or the greatest, or of both kinds; and each two whose heads are the same, or tell too little.
func near() []two {
	kinds := [][]int64{{1}, {2}, {1, 2}, {full}, {1 << 30}, {1 << 60, 1}, {1, 1, 1, 1 << 29}, {math.MaxInt64}, {3, 1 << 31, 1, 1 << 45}}
	var l []two
	for _, quotients := range kinds {
		for _, times := range []int{1, 7, 20, 61, 150} {
			many := slices.Repeat(quotients, times)
			l = append(l, row(big.NewInt(1), many...), row(big.NewInt(12), many...), row(value(api.Int{Limbs: mixed(3, 3)}), append(many, 2)...))
		}
	}
	for _, n := range []int{2, 3, 10, 60} {
		v := value(api.Int{Limbs: mixed(n, 4)})
		for _, less := range []*big.Int{big.NewInt(0), big.NewInt(1), big.NewInt(2), big.NewInt(full), new(big.Int).Lsh(big.NewInt(1), 70), new(big.Int).Rsh(v, 31), new(big.Int).Rsh(v, 60)} {
			w := new(big.Int).Sub(v, less)
			twice := new(big.Int).Add(v, v)
			l = append(l, two{number(v), number(w)}, two{number(twice), number(w)}, two{number(twice), number(new(big.Int).Add(v, less))})
		}
	}
	return l
}

// sides are each two of near, turned about, and with signs turned.
func sides() []two {
	var l []two
	for _, x := range near() {
		l = append(l, x, two{x[1], x[0]}, two{whole.Neg(x[0]), x[1]}, two{x[1], whole.Neg(x[0])}, two{whole.Neg(x[0]), whole.Neg(x[1])})
	}
	return l
}

// pairs are each two of all, and the sides.
func pairs() []two {
	l := sides()
	for _, a := range all() {
		for _, b := range all() {
			l = append(l, two{a, b})
		}
	}
	return l
}

// wrong are whole numbers that may not be.
func wrong() []api.Int {
	l := both([]uint32{0}, []uint32{6, 0}, []uint32{0, 0, 0}, []uint32{full, 0}, repeat(api.MaxLong, 1, 0),
		repeat(api.MaxLong+1, 0, 1), repeat(api.MaxLong+1, full, full), repeat(api.MaxLong+1, 2, 0))
	return append(l, api.Int{Neg: true}, api.Int{Neg: true, Limbs: []uint32{}})
}

// number is the whole number that one of math/big is.
func number(x *big.Int) api.Int {
	var n []uint32
	for b := x.Bytes(); len(b) > 0; b = b[:max(len(b)-4, 0)] {
		w := uint32(0)
		for _, c := range b[max(len(b)-4, 0):] {
			w = w<<8 | uint32(c)
		}
		n = append(n, w)
	}
	return api.Int{Neg: x.Sign() < 0, Limbs: n}
}

// value is a whole number as math/big has it.
func value(x api.Int) *big.Int {
	b := make([]byte, 0, 4*len(x.Limbs))
	for _, w := range slices.Backward(x.Limbs) {
		b = append(b, byte(w>>24), byte(w>>16), byte(w>>8), byte(w))
	}
	v := new(big.Int).SetBytes(b)
	if x.Neg {
		v.Neg(v)
	}
	return v
}

// values are two whole numbers as math/big has them.
func values(x two) (a, b *big.Int) { return value(x[0]), value(x[1]) }

// name tells a whole number briefly.
func name(x api.Int) string {
	sign := ""
	if x.Neg {
		sign = "-"
	}
	if n := x.Limbs; len(n) > 8 {
		return fmt.Sprintf("%s[%d %d .. %d, %d limbs]", sign, n[0], n[1], n[len(n)-1], len(n))
	}
	return fmt.Sprint(sign, x.Limbs)
}

// String tells both briefly.
func (x two) String() string { return name(x[0]) + ", " + name(x[1]) }

// equal complains unless two are the same whole number.
func equal(t *testing.T, got, want api.Int, what ...any) {
	t.Helper()
	if got.Neg != want.Neg || !slices.Equal(got.Limbs, want.Limbs) {
		t.Errorf("%s: got %s, want %s", fmt.Sprint(what...), name(got), name(want))
	}
}

// none complains unless all are 0.
func none(t *testing.T, what string, l ...api.Int) {
	t.Helper()
	for k, x := range l {
		equal(t, x, api.Int{}, what, ", result ", k)
	}
}

// ints are whole numbers of int's.
func ints(l ...int) []api.Int {
	var out []api.Int
	for _, n := range l {
		out = append(out, whole.Of(n))
	}
	return out
}

func TestExamples(t *testing.T) {
	of := whole.Of
	equal(t, gcd.Gcd(of(12), of(-18)), of(6), "Gcd(12, -18)")
	equal(t, gcd.Gcd(of(0), of(0)), of(0), "Gcd(0, 0)")
	equal(t, gcd.Gcd(of(0), of(-5)), of(5), "Gcd(0, -5)")
	equal(t, gcd.Lcm(of(4), of(6)), of(12), "Lcm(4, 6)")
	equal(t, gcd.Lcm(of(0), of(3)), of(0), "Lcm(0, 3)")
	g, u, v := gcd.Bezout(of(12), of(18))
	equal(t, g, of(6), "Bezout(12, 18)")
	equal(t, u, of(-1), "Bezout(12, 18), u")
	equal(t, v, of(1), "Bezout(12, 18), v")
	for _, x := range []struct {
		a, m, want int
		is         bool
	}{{3, 7, 5, true}, {2, 4, 0, false}, {5, 1, 0, true}} {
		n, is := gcd.Inverse(of(x.a), of(x.m))
		equal(t, n, of(x.want), "Inverse ", x.a, " by ", x.m)
		if is != x.is {
			t.Error("Inverse", x.a, x.m, is)
		}
	}
	equal(t, gcd.All(ints(12, 18, 8)), of(2), "All of 12, 18, 8")
}

// last is the last of the numbers from 0 to 1000 of which that holds, or 0.
func last(holds func(n int) bool) int {
	for n := 1000; n > 0; n-- {
		if holds(n) {
			return n
		}
	}
	return 0
}

// first is the first of the numbers from one on, less than a limit, of which that holds.
func first(from, limit int, holds func(n int) bool) (int, bool) {
	for n := from; n < limit; n++ {
		if holds(n) {
			return n, true
		}
	}
	return 0, false
}

// P7.1, P7.2: small ones, all of them, looked for by what the words say.
func TestP7_1Small(t *testing.T) {
	for a := -45; a <= 45; a++ {
		for b := -45; b <= 45; b++ {
			x, y := whole.Of(a), whole.Of(b)
			g := 0
			if a != 0 || b != 0 {
				g = last(func(n int) bool { return a%n == 0 && b%n == 0 })
			}
			equal(t, gcd.Gcd(x, y), whole.Of(g), "Gcd ", a, " ", b)
			equal(t, gcd.All([]api.Int{x, y}), whole.Of(g), "All ", a, " ", b)
			m := 0
			if a != 0 && b != 0 {
				m, _ = first(1, 45*45+1, func(n int) bool { return n%a == 0 && n%b == 0 })
			}
			equal(t, gcd.Lcm(x, y), whole.Of(m), "Lcm ", a, " ", b)
			got, u, v := gcd.Bezout(x, y)
			_, wantU, wantV := byWords(big.NewInt(int64(a)), big.NewInt(int64(b)))
			equal(t, got, whole.Of(g), "Bezout ", a, " ", b)
			equal(t, u, number(wantU), "Bezout ", a, " ", b, ", u")
			equal(t, v, number(wantV), "Bezout ", a, " ", b, ", v")
			// What leaves 1, divided by 1, leaves 0: all do.
			want, there := first(0, b, func(n int) bool { return (a*n-1)%b == 0 })
			inverse, is := gcd.Inverse(x, y)
			equal(t, inverse, whole.Of(want), "Inverse ", a, " by ", b)
			if is != there {
				t.Error("Inverse", a, b, is)
			}
		}
	}
}

// byWords is what Bezout has to tell, step by step as its words say it.
func byWords(a, b *big.Int) (g, u, v *big.Int) {
	if b.Sign() == 0 {
		return new(big.Int).Abs(a), big.NewInt(int64(a.Sign())), new(big.Int)
	}
	// DivMod leaves what is from 0 to |b| less 1.
	q, r := new(big.Int).DivMod(a, b, new(big.Int))
	g, u, v = byWords(b, r)
	return g, v, u.Sub(u, q.Mul(q, v))
}

// checkBezout holds Bezout, and Gcd, of two numbers against the words.
func checkBezout(t *testing.T, x two) (wantG, wantU *big.Int) {
	t.Helper()
	wantG, wantU, wantV := byWords(values(x))
	g, u, v := gcd.Bezout(x[0], x[1])
	equal(t, g, number(wantG), "Bezout ", x)
	equal(t, u, number(wantU), "Bezout ", x, ", u")
	equal(t, v, number(wantV), "Bezout ", x, ", v")
	equal(t, gcd.Gcd(x[0], x[1]), number(wantG), "Gcd ", x)
	return wantG, wantU
}

// check holds all calls of two numbers against math/big.
func check(t *testing.T, x two) {
	t.Helper()
	a, b := values(x)
	wantG, wantU := checkBezout(t, x)
	m := new(big.Int)
	if wantG.Sign() != 0 {
		m.Mul(a, b).Abs(m).Quo(m, wantG)
	}
	equal(t, gcd.Lcm(x[0], x[1]), number(m), "Lcm ", x)
	inverse, is := gcd.Inverse(x[0], x[1])
	if there := b.Sign() > 0 && wantG.Cmp(big.NewInt(1)) == 0; is != there {
		t.Error("Inverse", x, is)
	} else if is {
		equal(t, inverse, number(wantU.Mod(wantU, b)), "Inverse ", x)
	} else {
		none(t, "Inverse, none", inverse)
	}
}

// P7.1, P7.2: each two, and what has quotients of all kinds.
func TestP7_1Two(t *testing.T) {
	for _, x := range pairs() {
		check(t, x)
	}
}

// P7.1, P7.2: of all lengths; with a common divisor that is long, too.
func TestP7_1Lengths(t *testing.T) {
	for n := 1; n <= 24; n++ {
		for m := 1; m <= n; m++ {
			for seed := range 6 {
				a, b := api.Int{Neg: seed&1 == 1, Limbs: mixed(n, seed+10)}, api.Int{Neg: seed&2 == 2, Limbs: mixed(m, seed+20)}
				times := api.Int{Limbs: mixed(1+seed, 5)}
				check(t, two{a, b})
				check(t, two{b, a})
				check(t, two{whole.Mul(a, times), whole.Mul(b, times)})
			}
		}
	}
}

// P7.1, P7.4: the longest ones, of which the naturals of both rows are as long as may be.
func TestP7_1Longest(t *testing.T) {
	a, b := api.Int{Limbs: mixed(api.MaxLong, 1)}, api.Int{Neg: true, Limbs: mixed(api.MaxLong, 2)}
	x, y := value(a), value(b)
	g, u, v := gcd.Bezout(a, b)
	equal(t, g, number(new(big.Int).GCD(nil, nil, x, new(big.Int).Neg(y))), "Bezout, the longest")
	bounds(t, two{a, b}, u, v)
	sum := new(big.Int).Mul(x, value(u))
	equal(t, number(sum.Add(sum, new(big.Int).Mul(y, value(v)))), g, "Bezout, the longest, a u + b v")
	highest := api.Int{Limbs: repeat(api.MaxLong, full, full)}
	for _, z := range []two{{highest, highest}, {highest, whole.Sub(highest, whole.Of(1))}, {whole.Neg(highest), whole.Of(-1)}, {whole.Of(2), highest}, {highest, whole.Of(0)}} {
		checkBezout(t, z)
		checkBezout(t, two{z[1], z[0]})
	}
}

// P7.1: a Lcm as long as may be, and one that is longer; a product may be longer than its Lcm.
func TestP7_1LongestLcm(t *testing.T) {
	half := api.MaxLong / 2
	power := api.Int{Limbs: repeat(half+1, 0, 1)}
	odd := api.Int{Neg: true, Limbs: repeat(half, 1, 1<<31)}
	equal(t, gcd.Lcm(power, odd), api.Int{Limbs: slices.Concat(make([]uint32, half), odd.Limbs)}, "Lcm as long as may be")
	none(t, "Lcm that is too long", gcd.Lcm(whole.Mul(power, whole.Of(2)), odd), gcd.Lcm(odd, whole.Mul(power, whole.Of(4))),
		gcd.Lcm(power, api.Int{Limbs: repeat(half+1, 1, 1)}))
	longest := api.Int{Limbs: repeat(api.MaxLong, full, full)}
	equal(t, gcd.Lcm(longest, whole.Neg(longest)), longest, "Lcm of the longest, twice")
	equal(t, gcd.Lcm(api.Int{Limbs: []uint32{full}}, longest), longest, "Lcm of the longest, and a divisor")
	equal(t, gcd.Lcm(longest, api.Int{Limbs: repeat(half, full, full)}), longest, "Lcm of the longest, and its half")
	none(t, "Lcm of the longest, and 2", gcd.Lcm(longest, whole.Of(2)))
	none(t, "Lcm of the longest, and 0", gcd.Lcm(longest, whole.Of(0)), gcd.Lcm(whole.Of(0), longest))
}

// P7.1: lists of nothing, of zeros, of one, and long ones.
func TestP7_1All(t *testing.T) {
	none(t, "All of none, of zeros", gcd.All(nil), gcd.All([]api.Int{}), gcd.All(ints(0)), gcd.All(make([]api.Int, 1000)))
	for _, x := range all() {
		equal(t, gcd.All([]api.Int{x}), whole.Abs(x), "All of one ", name(x))
		equal(t, gcd.All([]api.Int{whole.Of(0), x, whole.Neg(x), whole.Of(0)}), whole.Abs(x), "All of one, and zeros ", name(x))
	}
	g := api.Int{Limbs: mixed(5, 6)}
	l := make([]api.Int, 1<<17)
	for k := range l {
		// Any two have more in common: multiples of 2, 3, or 5.
		l[k] = whole.Mul(whole.Of((k+1)*[]int{6, -10, 15}[k%3]), g)
	}
	equal(t, gcd.All(l[:1]), whole.Mul(g, whole.Of(6)), "All of one multiple")
	equal(t, gcd.All(l[3:5]), whole.Mul(g, whole.Of(2)), "All of two multiples")
	equal(t, gcd.All(l), g, "All of a long list")
	equal(t, gcd.All(append(l, whole.Of(1))), whole.Of(1), "All of a long list, and 1")
	equal(t, gcd.All(slices.Repeat([]api.Int{{Limbs: repeat(api.MaxLong, full, full)}, {Neg: true, Limbs: repeat(api.MaxLong/2, full, full)}}, 2)),
		api.Int{Limbs: repeat(api.MaxLong/2, full, full)}, "All of the longest")
}

// What is handed a number that may not be says 0, or no, wherever that stands.
func TestWrong(t *testing.T) {
	for _, x := range wrong() {
		for _, y := range slices.Concat(few(), many()[:2], wrong()) {
			for _, z := range []two{{x, y}, {y, x}} {
				g, u, v := gcd.Bezout(z[0], z[1])
				inverse, is := gcd.Inverse(z[0], z[1])
				none(t, "of what may not be "+z.String(), gcd.Gcd(z[0], z[1]), gcd.Lcm(z[0], z[1]), g, u, v, inverse)
				if is {
					t.Error("Inverse", z)
				}
			}
			none(t, "All of what may not be "+name(x), gcd.All([]api.Int{x}), gcd.All([]api.Int{x, y}), gcd.All([]api.Int{y, whole.Of(1), x}), gcd.All([]api.Int{y, x, whole.Of(3)}))
		}
		long := slices.Repeat(ints(1, 0, 7), 1000)
		none(t, "All of a long list, and what may not be", gcd.All(append(long, x)), gcd.All(append([]api.Int{x}, long...)))
	}
}

// P7.2: m that is not above 0.
func TestP7_2NotAbove(t *testing.T) {
	for _, a := range all() {
		for _, m := range all() {
			if m.Neg || len(m.Limbs) == 0 {
				n, is := gcd.Inverse(a, m)
				none(t, "Inverse by what is not above 0", n)
				if is {
					t.Error("Inverse", name(a), name(m))
				}
			}
		}
		n, is := gcd.Inverse(a, whole.Of(1))
		none(t, "Inverse by 1", n)
		if !is {
			t.Error("Inverse by 1", name(a))
		}
	}
}

// divides tells whether one whole number divides another one.
func divides(d, a api.Int) bool {
	v, w := value(d), value(a)
	return v.Sign() == 0 && w.Sign() == 0 || v.Sign() != 0 && new(big.Int).Rem(w, v).Sign() == 0
}

// P7.3: it divides each; what divides each divides it; turned about, and with signs turned.
func TestP7_3Divides(t *testing.T) {
	for _, x := range pairs() {
		a, b := x[0], x[1]
		g := gcd.Gcd(a, b)
		if g.Neg || !divides(g, a) || !divides(g, b) {
			t.Error("divides", x, name(g))
		}
		equal(t, gcd.Gcd(b, a), g, "turned about ", x)
		equal(t, gcd.Gcd(whole.Neg(a), b), g, "the first sign turned ", x)
		equal(t, gcd.Gcd(a, whole.Neg(b)), g, "the second sign turned ", x)
		equal(t, gcd.Gcd(whole.Neg(a), whole.Neg(b)), g, "both signs turned ", x)
		for _, d := range []api.Int{whole.Of(2), whole.Of(-7), {Limbs: mixed(2, 7)}, {Limbs: mixed(9, 7)}} {
			if divides(d, a) && divides(d, b) && !divides(d, g) {
				t.Error("a common divisor", name(d), x, name(g))
			}
			more := gcd.Gcd(whole.Mul(a, d), whole.Mul(b, d))
			if !divides(d, more) {
				t.Error("a common divisor", name(d), "of multiples", x, name(more))
			}
			equal(t, more, whole.Mul(g, whole.Abs(d)), "of multiples by ", name(d), " ", x)
		}
	}
}

// bounds complains unless Bezout's numbers are as small as is promised.
func bounds(t *testing.T, x two, u, v api.Int) {
	t.Helper()
	atMost := whole.Abs(x[0])
	if len(atMost.Limbs) == 0 {
		atMost = whole.Of(1)
	}
	if whole.Cmp(whole.Abs(u), whole.Abs(x[1])) > 0 || whole.Cmp(whole.Abs(v), atMost) > 0 {
		t.Error("Bezout's numbers", x, name(u), name(v))
	}
}

// P7.4: a u + b v is g; how great both are.
func TestP7_4Bezout(t *testing.T) {
	for _, x := range pairs() {
		g, u, v := gcd.Bezout(x[0], x[1])
		equal(t, whole.Add(whole.Mul(x[0], u), whole.Mul(x[1], v)), g, "a u + b v ", x)
		equal(t, g, gcd.Gcd(x[0], x[1]), "Bezout, and Gcd ", x)
		if len(x[1].Limbs) > 0 {
			bounds(t, x, u, v)
			continue
		}
		equal(t, u, whole.Of(whole.Sign(x[0])), "u, of b 0 ", x)
		none(t, "v, of b 0", v)
	}
}

// P7.5: products; both divide the Lcm; lists from the first one on.
func TestP7_5Multiples(t *testing.T) {
	for _, x := range pairs() {
		g, m := gcd.Gcd(x[0], x[1]), gcd.Lcm(x[0], x[1])
		equal(t, whole.Mul(g, m), whole.Abs(whole.Mul(x[0], x[1])), "Gcd times Lcm ", x)
		if m.Neg || !divides(x[0], m) || !divides(x[1], m) {
			t.Error("Lcm", x, name(m))
		}
		equal(t, gcd.Lcm(x[1], whole.Neg(x[0])), m, "Lcm turned about ", x)
	}
	six, ten, long := whole.Of(6), whole.Of(10), api.Int{Limbs: mixed(7, 8)}
	for _, x := range sides() {
		l := []api.Int{whole.Mul(x[0], six), whole.Mul(x[1], ten), whole.Mul(long, six), x[0], x[1], six}
		for k := range l {
			equal(t, gcd.All(l[k:]), gcd.Gcd(l[k], gcd.All(l[k+1:])), "All from ", k, " ", x)
			equal(t, gcd.All(l[:k+1]), gcd.Gcd(gcd.All(l[:k]), l[k]), "All to ", k, " ", x)
		}
	}
}

// P7.6: there is an Inverse just if the Gcd is 1; times a it is 1 and a multiple of m.
func TestP7_6Inverses(t *testing.T) {
	one := whole.Of(1)
	for _, x := range pairs() {
		a, m := x[0], whole.Abs(x[1])
		if len(m.Limbs) == 0 {
			continue
		}
		n, is := gcd.Inverse(a, m)
		if is != (whole.Cmp(gcd.Gcd(a, m), one) == 0) {
			t.Error("Inverse", x, is)
		}
		if !is {
			none(t, "Inverse, none", n)
			continue
		}
		if n.Neg || whole.Cmp(n, m) >= 0 || !divides(m, whole.Sub(whole.Mul(n, a), one)) {
			t.Error("Inverse", x, name(n))
		}
		more, is := gcd.Inverse(whole.Add(a, whole.Mul(m, whole.Of(-3))), m)
		equal(t, more, n, "Inverse of a multiple more ", x)
		if !is {
			t.Error("Inverse of a multiple more", x)
		}
	}
}

// scribbled has other limbs than before, behind its end too.
func scribbled(x api.Int) {
	l := x.Limbs[:cap(x.Limbs)]
	for k := range l {
		l[k] ^= full
	}
}

// R1: what is handed in stays, also behind its end; what is told shares no memory with it, nor one result with another one.
func TestR1Memory(t *testing.T) {
	calls := []func(a, b api.Int) []api.Int{
		func(a, b api.Int) []api.Int { return []api.Int{gcd.Gcd(a, b)} },
		func(a, b api.Int) []api.Int { return []api.Int{gcd.Lcm(a, b)} },
		func(a, b api.Int) []api.Int { return []api.Int{gcd.All([]api.Int{a, b, a})} },
		func(a, b api.Int) []api.Int { return []api.Int{gcd.All([]api.Int{b})} },
		func(a, b api.Int) []api.Int {
			g, u, v := gcd.Bezout(a, b)
			return []api.Int{g, u, v}
		},
		func(a, b api.Int) []api.Int {
			n, _ := gcd.Inverse(a, b)
			return []api.Int{n}
		},
	}
	behind := []uint32{9, 9, 9}
	for _, x := range pairs() {
		for k, call := range calls {
			n, m := slices.Concat(x[0].Limbs, behind), slices.Concat(x[1].Limbs, behind)
			told := call(api.Int{Neg: x[0].Neg, Limbs: n[:len(x[0].Limbs)]}, api.Int{Neg: x[1].Neg, Limbs: m[:len(x[1].Limbs)]})
			for i, one := range told {
				kept := make([][]uint32, 0, len(told))
				for _, other := range told {
					kept = append(kept, slices.Clone(other.Limbs))
				}
				scribbled(one)
				for j, other := range told {
					if j != i && !slices.Equal(other.Limbs, kept[j]) {
						t.Fatal("call", k, "results", i, j, x)
					}
				}
			}
			if !slices.Equal(n, slices.Concat(x[0].Limbs, behind)) || !slices.Equal(m, slices.Concat(x[1].Limbs, behind)) {
				t.Fatal("call", k, x)
			}
		}
	}
}

// R1: a list that is handed in stays, also behind its end.
func TestR1List(t *testing.T) {
	l := ints(12, -18, 8, 5)
	equal(t, gcd.All(l[:3]), whole.Of(2), "All of a piece")
	for k, want := range ints(12, -18, 8, 5) {
		equal(t, l[k], want, "the list, place ", k)
	}
}
