package euclid_test

import (
	"fmt"
	"math"
	"math/big"
	"math/rand"
	"slices"
	"testing"

	"alidade/api"
	"alidade/euclid"
	"alidade/whole"
)

const full = math.MaxUint32

// divided is a call that tells a quotient, and what is left.
type divided func(a, d api.Int) (q, r api.Int, e api.Errno)

// repeat is a natural of so many limbs, all the same but for the last one.
func repeat(long int, limb, last uint32) []uint32 {
	n := slices.Repeat([]uint32{limb}, long)
	n[long-1] = last
	return n
}

// mixed is a natural of so many limbs, of a fixed seed.
func mixed(long int) []uint32 {
	r := rand.New(rand.NewSource(int64(long)))
	n := make([]uint32, long)
	for k := range n {
		n[k] = r.Uint32() | uint32(k&1)*full
	}
	n[long-1] |= 1
	return n
}

// both are naturals, and the same ones below 0.
func both(naturals ...[]uint32) []api.Int {
	var l []api.Int
	for _, n := range naturals {
		l = append(l, api.Int{Limbs: n})
		if len(n) > 0 {
			l = append(l, api.Int{Neg: true, Limbs: n})
		}
	}
	return l
}

// few are short whole numbers, edges of limbs among them.
func few() []api.Int {
	return both(nil, []uint32{1}, []uint32{2}, []uint32{3}, []uint32{7}, []uint32{10}, []uint32{1 << 31}, []uint32{full}, []uint32{0, 1},
		[]uint32{1, 1}, []uint32{full, full >> 1}, []uint32{0, 1 << 31}, []uint32{full, full}, []uint32{0, 0, 1}, mixed(2), mixed(3), mixed(5))
}

// many are longer ones.
func many() []api.Int {
	return both(mixed(12), mixed(40), mixed(41), mixed(100), repeat(60, full, full), repeat(61, 0, 1), repeat(30, 0, 2))
}

// longest are some as long as may be.
func longest() []api.Int {
	return both(repeat(api.MaxLong, full, full), repeat(api.MaxLong, 0, 1), repeat(api.MaxLong, 0, 1<<31), repeat(api.MaxLong, 1, 1<<31), mixed(api.MaxLong))
}

// all are the short ones, and the longer ones.
func all() []api.Int { return slices.Concat(few(), many()) }

// divisors are those of them that are not 0.
func divisors() []api.Int {
	return slices.DeleteFunc(all(), func(d api.Int) bool { return len(d.Limbs) == 0 })
}

// above are those of them that are above 0.
func above() []api.Int {
	return slices.DeleteFunc(divisors(), func(d api.Int) bool { return d.Neg })
}

// wrong are whole numbers that may not be.
func wrong() []api.Int {
	l := both([]uint32{0}, []uint32{6, 0}, []uint32{0, 0, 0}, []uint32{full, 0}, repeat(api.MaxLong, 1, 0),
		repeat(api.MaxLong+1, 0, 1), repeat(api.MaxLong+1, full, full), repeat(api.MaxLong+1, 2, 0))
	return append(l, api.Int{Neg: true}, api.Int{Neg: true, Limbs: []uint32{}})
}

// near are the multiples of a divisor by some numbers, those of its half, and what is beside them.
func near(d api.Int) []api.Int {
	v := value(d)
	var l []api.Int
	for _, times := range []*big.Int{big.NewInt(0), big.NewInt(1), big.NewInt(-1), big.NewInt(6), big.NewInt(-7), value(api.Int{Limbs: mixed(4)}), value(api.Int{Neg: true, Limbs: mixed(9)})} {
		half := new(big.Int).Mul(v, times)
		half.Rsh(half, 1)
		for _, at := range []*big.Int{half, new(big.Int).Mul(v, times)} {
			for beside := int64(-2); beside <= 2; beside++ {
				l = append(l, number(new(big.Int).Add(at, big.NewInt(beside))))
			}
		}
	}
	return l
}

// number is the whole number that one of math/big is.
func number(x *big.Int) api.Int {
	var n []uint32
	for b := x.Bytes(); len(b) > 0; b = b[:max(len(b)-4, 0)] {
		w := uint32(0)
		for _, c := range b[max(len(b)-4, 0):] {
			w = w<<8 | uint32(c)
		}
		n = append(n, w)
	}
	return api.Int{Neg: x.Sign() < 0, Limbs: n}
}

// value is a whole number as math/big has it.
func value(x api.Int) *big.Int {
	b := make([]byte, 0, 4*len(x.Limbs))
	for _, w := range slices.Backward(x.Limbs) {
		b = append(b, byte(w>>24), byte(w>>16), byte(w>>8), byte(w))
	}
	v := new(big.Int).SetBytes(b)
	if x.Neg {
		v.Neg(v)
	}
	return v
}

// name tells a whole number briefly.
func name(x api.Int) string {
	sign := ""
	if x.Neg {
		sign = "-"
	}
	if n := x.Limbs; len(n) > 8 {
		return fmt.Sprintf("%s[%d %d .. %d, %d limbs]", sign, n[0], n[1], n[len(n)-1], len(n))
	}
	return fmt.Sprint(sign, x.Limbs)
}

// equal complains unless two are the same whole number.
func equal(t *testing.T, got, want api.Int, what ...any) {
	t.Helper()
	if got.Neg != want.Neg || !slices.Equal(got.Limbs, want.Limbs) {
		t.Errorf("%s: got %s, want %s", fmt.Sprint(what...), name(got), name(want))
	}
}

// told is what a call tells of two numbers, if it tells no error.
func told(t *testing.T, call divided, a, d api.Int) (q, r api.Int) {
	t.Helper()
	q, r, e := call(a, d)
	if e != api.OK {
		t.Errorf("%s by %s: %v", name(a), name(d), e)
	}
	return q, r
}

// mod is Mod, if it tells no error.
func mod(t *testing.T, a, d api.Int) api.Int {
	t.Helper()
	r, e := euclid.Mod(a, d)
	if e != api.OK {
		t.Errorf("Mod of %s by %s: %v", name(a), name(d), e)
	}
	return r
}

// exact is Exact, if it tells no error.
func exact(t *testing.T, a, d api.Int) api.Int {
	t.Helper()
	q, e := euclid.Exact(a, d)
	if e != api.OK {
		t.Errorf("Exact of %s by %s: %v", name(a), name(d), e)
	}
	return q
}

// sized is -1, 0, or 1, as a number, without its sign, stands to another one, without its sign.
func sized(a, b api.Int) int { return whole.Cmp(whole.Abs(a), whole.Abs(b)) }

// refused complains unless all calls that divide tell that error, and nothing else.
func refused(t *testing.T, a, d api.Int, want api.Errno) {
	t.Helper()
	for k, call := range []divided{euclid.Floor, euclid.Ceil, euclid.Trunc, euclid.Hat} {
		q, r, e := call(a, d)
		if len(q.Limbs) != 0 || len(r.Limbs) != 0 || q.Neg || r.Neg || e != want {
			t.Errorf("call %d, %s by %s: %s %s %v, want %v", k, name(a), name(d), name(q), name(r), e, want)
		}
	}
	for k, call := range []func(a, d api.Int) (api.Int, api.Errno){euclid.Mod, euclid.Exact} {
		x, e := call(a, d)
		if len(x.Limbs) != 0 || x.Neg || e != want {
			t.Errorf("call %d of one result, %s by %s: %s %v, want %v", k, name(a), name(d), name(x), e, want)
		}
	}
}

func TestExamples(t *testing.T) {
	for _, x := range []struct {
		what       string
		call       divided
		a, d, q, r int
	}{
		{"Floor", euclid.Floor, -7, 2, -4, 1},
		{"Ceil", euclid.Ceil, -7, 2, -3, -1},
		{"Trunc", euclid.Trunc, -7, 2, -3, -1},
		{"Floor", euclid.Floor, 7, -2, -4, -1},
		{"Hat", euclid.Hat, 7, 4, 2, -1},
		{"Hat", euclid.Hat, 6, 4, 2, -2},
		{"Hat", euclid.Hat, -6, 4, -1, -2},
		{"Hat", euclid.Hat, 5, 4, 1, 1},
	} {
		q, r := told(t, x.call, whole.Of(x.a), whole.Of(x.d))
		equal(t, q, whole.Of(x.q), x.what, " ", x.a, " by ", x.d)
		equal(t, r, whole.Of(x.r), x.what, " ", x.a, " by ", x.d, ", left")
	}
	equal(t, mod(t, whole.Of(-7), whole.Of(5)), whole.Of(3), "Mod of -7 by 5")
	equal(t, mod(t, whole.Of(-7), whole.Of(-5)), whole.Of(3), "Mod of -7 by -5")
	equal(t, exact(t, whole.Of(12), whole.Of(-4)), whole.Of(-3), "Exact of 12 by -4")
	if !euclid.Divides(whole.Of(0), whole.Of(0)) {
		t.Error("0 divides 0")
	}
}

// first is the first of the numbers from one on, up or down, of which that holds.
func first(from, step int, holds func(q int) bool) int {
	for q := from; ; q += step {
		if holds(q) {
			return q
		}
	}
}

// signOf is -1, 0, or 1.
func signOf(n int) int { return max(-1, min(n, 1)) }

// P6.1, P6.2: small ones, all of them, looked for by what the words say.
func TestP6_1Small(t *testing.T) {
	for a := -50; a <= 50; a++ {
		for d := -23; d <= 23; d++ {
			if d == 0 {
				continue
			}
			// A number is a/d at most, if it, times |d|, is a with d's sign at most.
			side, size := a*signOf(d), d*signOf(d)
			floor := first(60, -1, func(q int) bool { return q*size <= side })
			ceil := first(-60, 1, func(q int) bool { return q*size >= side })
			trunc := floor
			if side < 0 {
				trunc = ceil
			}
			// The nearest to a/|d|, halves up: the greatest whose half below is a/|d| at most.
			hat := first(60, -1, func(q int) bool { return (2*q-1)*size <= 2*a })
			for _, x := range []struct {
				what       string
				call       divided
				q, divisor int
			}{{"Floor", euclid.Floor, floor, d}, {"Ceil", euclid.Ceil, ceil, d}, {"Trunc", euclid.Trunc, trunc, d}, {"Hat", euclid.Hat, hat, size}} {
				q, r := told(t, x.call, whole.Of(a), whole.Of(d))
				equal(t, q, whole.Of(x.q), x.what, " ", a, " by ", d)
				equal(t, r, whole.Of(a-x.divisor*x.q), x.what, " ", a, " by ", d, ", left")
			}
			left := first(0, 1, func(r int) bool { return (a-r)%d == 0 })
			equal(t, mod(t, whole.Of(a), whole.Of(d)), whole.Of(left), "Mod ", a, " by ", d)
			if got := euclid.Divides(whole.Of(d), whole.Of(a)); got != (left == 0) {
				t.Error("Divides", d, a, got)
			}
			if left == 0 {
				equal(t, exact(t, whole.Of(a), whole.Of(d)), whole.Of(a/d), "Exact ", a, " by ", d)
			} else if q, e := euclid.Exact(whole.Of(a), whole.Of(d)); len(q.Limbs) != 0 || e != api.ErrForm {
				t.Error("Exact", a, d, name(q), e)
			}
		}
	}
}

// wanted are the quotients of all kinds, as math/big has them: rounded down, up, to 0, and to the nearest by |d|.
func wanted(a, d *big.Int) [4]*big.Int {
	// Div is the one rounded down, where the divisor is above 0.
	floorOf := func(a, d *big.Int) *big.Int {
		if d.Sign() < 0 {
			a, d = new(big.Int).Neg(a), new(big.Int).Neg(d)
		}
		return new(big.Int).Div(a, d)
	}
	ceil := floorOf(new(big.Int).Neg(a), d)
	size := new(big.Int).Abs(d)
	twice := new(big.Int).Lsh(a, 1)
	return [4]*big.Int{
		floorOf(a, d), ceil.Neg(ceil), new(big.Int).Quo(a, d),
		floorOf(twice.Add(twice, size), new(big.Int).Lsh(size, 1)),
	}
}

// check holds all calls of two numbers, the second one of which is not 0, against math/big.
func check(t *testing.T, a, d api.Int) {
	t.Helper()
	v, w := value(a), value(d)
	for k, want := range wanted(v, w) {
		by := w
		if k == 3 {
			by = new(big.Int).Abs(w)
		}
		q, r := told(t, []divided{euclid.Floor, euclid.Ceil, euclid.Trunc, euclid.Hat}[k], a, d)
		left := new(big.Int).Mul(by, want)
		equal(t, q, number(want), "quotient ", k, " of ", name(a), " by ", name(d))
		equal(t, r, number(left.Sub(v, left)), "left of ", k, ", ", name(a), " by ", name(d))
	}
	left := new(big.Int).Mod(v, w)
	equal(t, mod(t, a, d), number(left), "Mod of ", name(a), " by ", name(d))
	if got := euclid.Divides(d, a); got != (left.Sign() == 0) {
		t.Error("Divides", name(d), name(a), got)
	}
	if left.Sign() == 0 {
		equal(t, exact(t, a, d), number(new(big.Int).Quo(v, w)), "Exact of ", name(a), " by ", name(d))
	} else if q, e := euclid.Exact(a, d); len(q.Limbs) != 0 || q.Neg || e != api.ErrForm {
		t.Error("Exact", name(a), name(d), name(q), e)
	}
}

// P6.1, P6.2: each two, and what is near multiples, and halves of them.
func TestP6_1Two(t *testing.T) {
	for _, d := range divisors() {
		for _, a := range slices.Concat(all(), near(d)) {
			check(t, a, d)
		}
	}
}

// P6.1, P6.2: the longest ones; what is left, twice, is longer than may be.
func TestP6_1Longest(t *testing.T) {
	for _, a := range slices.Concat(longest(), both(repeat(api.MaxLong, full, full>>1), repeat(api.MaxLong, 0, 1<<30), repeat(api.MaxLong-1, full, full))) {
		for _, d := range slices.Concat(longest(), both([]uint32{1}, []uint32{2}, []uint32{full}, []uint32{0, 1}, mixed(20))) {
			check(t, a, d)
		}
	}
	// Halves of the longest one that is even, and what is beside them.
	d := api.Int{Limbs: repeat(api.MaxLong, 0, full)}
	half := new(big.Int).Rsh(value(d), 1)
	for beside := int64(-1); beside <= 1; beside++ {
		a := new(big.Int).Add(half, big.NewInt(beside))
		check(t, number(a), d)
		check(t, number(a), whole.Neg(d))
		check(t, number(a.Neg(a)), d)
		check(t, number(a), whole.Neg(d))
	}
}

// P6.2: 0 divides 0 alone, all divide 0; products are divided exactly.
func TestP6_2Divides(t *testing.T) {
	zero := whole.Of(0)
	for _, a := range slices.Concat(all(), longest()) {
		if got := euclid.Divides(zero, a); got != (len(a.Limbs) == 0) {
			t.Error("0 divides", name(a), got)
		}
		if !euclid.Divides(a, zero) {
			t.Error("divides 0:", name(a))
		}
	}
	for _, d := range divisors() {
		for _, q := range all() {
			equal(t, exact(t, whole.Mul(d, q), d), q, "Exact of a product ", name(q), " by ", name(d))
			if sized(d, whole.Of(1)) == 0 {
				continue
			}
			a := whole.Add(whole.Mul(d, q), whole.Of(1))
			if euclid.Divides(d, a) {
				t.Error("divides a multiple, and 1:", name(d), name(q))
			}
			if x, e := euclid.Exact(a, d); len(x.Limbs) != 0 || x.Neg || e != api.ErrForm {
				t.Error("Exact of a multiple, and 1:", name(d), name(q), name(x), e)
			}
		}
	}
}

// Errors: what may not be goes ahead of a divisor that is 0; with an error nothing else is told.
func TestWrong(t *testing.T) {
	for _, x := range wrong() {
		for _, y := range slices.Concat(few(), many()[:2], wrong(), longest()[:2]) {
			refused(t, x, y, api.ErrForm)
			refused(t, y, x, api.ErrForm)
			if euclid.Divides(x, y) || euclid.Divides(y, x) {
				t.Error("Divides", name(x), name(y))
			}
		}
	}
	for _, a := range slices.Concat(all(), longest()) {
		refused(t, a, api.Int{}, api.ErrZero)
		refused(t, a, api.Int{Limbs: []uint32{}}, api.ErrZero)
	}
}

// P6.3: parted, and put together; the sign of what is left, and how great it is.
func TestP6_3Parted(t *testing.T) {
	for _, d := range divisors() {
		for _, a := range slices.Concat(all(), near(d)) {
			for _, x := range []struct {
				what string
				call divided
				sign int
			}{
				{"Floor", euclid.Floor, whole.Sign(d)}, {"Ceil", euclid.Ceil, -whole.Sign(d)}, {"Trunc", euclid.Trunc, whole.Sign(a)},
			} {
				q, r := told(t, x.call, a, d)
				equal(t, whole.Add(whole.Mul(d, q), r), a, x.what, " put together ", name(a), " by ", name(d))
				if s := whole.Sign(r); s != 0 && s != x.sign || sized(r, d) >= 0 {
					t.Error(x.what, "left", name(a), name(d), name(r))
				}
			}
			if d.Neg {
				continue
			}
			_, left := told(t, euclid.Floor, a, d)
			equal(t, mod(t, a, d), left, "Mod, and left by Floor ", name(a), " by ", name(d))
		}
	}
}

// P6.4: the symmetric remainder, twice; it is the remainder, or that less |d|.
func TestP6_4Halves(t *testing.T) {
	for _, d := range divisors() {
		size := whole.Abs(d)
		for _, a := range slices.Concat(all(), near(d)) {
			q, r := told(t, euclid.Hat, a, d)
			equal(t, whole.Add(whole.Mul(size, q), r), a, "Hat put together ", name(a), " by ", name(d))
			twice := whole.Add(r, r)
			if whole.Cmp(twice, whole.Neg(size)) < 0 || whole.Cmp(twice, size) >= 0 {
				t.Error("Hat left", name(a), name(d), name(r))
			}
			want := mod(t, a, d)
			if whole.Sign(r) < 0 {
				want = whole.Sub(want, size)
			}
			equal(t, r, want, "Hat, and the remainder ", name(a), " by ", name(d))
		}
	}
}

// P6.5: turned about; the sign of d, and multiples of it.
func TestP6_5TurnedAbout(t *testing.T) {
	for _, d := range divisors() {
		for _, a := range slices.Concat(all(), near(d)) {
			ceil, _ := told(t, euclid.Ceil, a, d)
			floor, _ := told(t, euclid.Floor, whole.Neg(a), d)
			equal(t, ceil, whole.Neg(floor), "Ceil, and Floor ", name(a), " by ", name(d))
			q, r := told(t, euclid.Hat, a, d)
			turned, same := told(t, euclid.Hat, a, whole.Neg(d))
			equal(t, turned, q, "Hat's quotient, d turned about ", name(a), " by ", name(d))
			equal(t, same, r, "Hat, d turned about ", name(a), " by ", name(d))
			left := mod(t, a, d)
			equal(t, mod(t, a, whole.Neg(d)), left, "Mod, d turned about ", name(a), " by ", name(d))
			for _, times := range []api.Int{whole.Of(1), whole.Of(-2), {Limbs: mixed(3)}} {
				more := whole.Add(a, whole.Mul(times, d))
				_, same = told(t, euclid.Hat, more, d)
				equal(t, same, r, "Hat of a multiple more ", name(a), " by ", name(d))
				equal(t, mod(t, more, d), left, "Mod of a multiple more ", name(a), " by ", name(d))
			}
		}
	}
}

// P6.6: what d times q says of q; where both are the same.
func TestP6_6Between(t *testing.T) {
	for _, d := range above() {
		for _, a := range slices.Concat(all(), near(d)) {
			floor, _ := told(t, euclid.Floor, a, d)
			ceil, _ := told(t, euclid.Ceil, a, d)
			for beside := -2; beside <= 2; beside++ {
				for _, q := range []api.Int{whole.Add(floor, whole.Of(beside)), whole.Add(ceil, whole.Of(beside))} {
					stands := whole.Cmp(whole.Mul(d, q), a)
					if (stands <= 0) != (whole.Cmp(q, floor) <= 0) || (stands >= 0) != (whole.Cmp(q, ceil) >= 0) {
						t.Error("between", name(a), name(d), name(q), stands)
					}
				}
			}
			divides := euclid.Divides(d, a)
			if divides != (whole.Cmp(floor, ceil) == 0) || divides != (whole.Sign(mod(t, a, d)) == 0) {
				t.Error("Divides", name(d), name(a), divides)
			}
			if divides {
				equal(t, exact(t, a, d), floor, "Exact, and Floor ", name(a), " by ", name(d))
			}
		}
	}
}

// scribbled has other limbs than before, behind its end too.
func scribbled(x api.Int) {
	l := x.Limbs[:cap(x.Limbs)]
	for k := range l {
		l[k] ^= full
	}
}

// R1: what is handed in stays, also behind its end; what is told shares no memory with it, nor a quotient with what is left.
func TestR1Memory(t *testing.T) {
	one := func(call func(a, d api.Int) (api.Int, api.Errno)) divided {
		return func(a, d api.Int) (q, r api.Int, e api.Errno) {
			q, e = call(a, d)
			return q, r, e
		}
	}
	calls := []divided{euclid.Floor, euclid.Ceil, euclid.Trunc, euclid.Hat, one(euclid.Mod), one(euclid.Exact), one(func(a, d api.Int) (api.Int, api.Errno) {
		euclid.Divides(d, a)
		return api.Int{}, api.OK
	})}
	behind := []uint32{9, 9, 9}
	for i, call := range calls {
		for _, a := range all() {
			for _, d := range all() {
				n, m := slices.Concat(a.Limbs, behind), slices.Concat(d.Limbs, behind)
				q, r, _ := call(api.Int{Neg: a.Neg, Limbs: n[:len(a.Limbs)]}, api.Int{Neg: d.Neg, Limbs: m[:len(d.Limbs)]})
				left := slices.Clone(r.Limbs)
				scribbled(q)
				if !slices.Equal(left, r.Limbs) {
					t.Fatal("call", i, "quotient, and left", name(a), name(d))
				}
				scribbled(r)
				if !slices.Equal(n, slices.Concat(a.Limbs, behind)) || !slices.Equal(m, slices.Concat(d.Limbs, behind)) {
					t.Fatal("call", i, name(a), name(d))
				}
			}
		}
	}
	for _, a := range both([]uint32{6}, mixed(50)) {
		q, r, e := euclid.Floor(a, a)
		equal(t, q, whole.Of(1), "by itself ", name(a))
		equal(t, r, whole.Of(0), "by itself, left ", name(a))
		if e != api.OK {
			t.Error("by itself", name(a), e)
		}
	}
}
