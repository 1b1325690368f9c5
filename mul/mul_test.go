package mul_test

import (
	"fmt"
	"math"
	"math/big"
	"math/rand"
	"slices"
	"testing"

	"alidade/api"
	"alidade/mul"
	"alidade/nat"
)

const (
	full     = math.MaxUint32
	mostBits = 32 * api.MaxLong
)

// repeat is a natural of so many limbs, all the same but for the last one.
func repeat(long int, limb, last uint32) []uint32 {
	n := slices.Repeat([]uint32{limb}, long)
	n[long-1] = last
	return n
}

// mixed is a natural of so many limbs: some of them edges, others of a fixed seed, stretches of 0 and of full ones among them.
func mixed(long int) []uint32 {
	r := rand.New(rand.NewSource(int64(long)))
	n := make([]uint32, 0, long)
	for len(n) < long {
		stretch := slices.Repeat([]uint32{[]uint32{0, full, 1 << 31}[r.Intn(3)]}, 1+r.Intn(1+long/3))
		n = append(n, r.Uint32(), r.Uint32())
		n = append(n, stretch...)
	}
	n = n[:long:long]
	n[long-1] |= 1
	return n
}

// few are naturals of few limbs.
func few() [][]uint32 {
	return [][]uint32{
		nil, {}, {1}, {2}, {3}, {10}, {1 << 16}, {1 << 31}, {full - 1}, {full},
		{0, 1}, {1, 1}, {full, 1}, {0, full}, {full, full}, {0, 1 << 31}, {0, 0, 1},
		{full, full, full}, {full, 0, full}, {0, full, 1}, mixed(5), mixed(7), mixed(12),
	}
}

// many are naturals about as long as those that are parted, and longer ones, even and odd ones, with halves that are 0, or full.
func many() [][]uint32 {
	var l [][]uint32
	for _, long := range []int{31, 40, 63, 64, 65, 66, 100, 127, 128, 129, 130, 191, 257, 400, 777} {
		half := repeat(long, full, full)
		clear(half[:long/2])
		hole := repeat(long, 5, full)
		clear(hole[1 : long-1])
		l = append(l, mixed(long), repeat(long, full, full), repeat(long, 0, 1), half, hole)
	}
	return l
}

// wrong are naturals that may not be.
func wrong() [][]uint32 {
	return [][]uint32{
		{0}, {1, 0}, {0, 0, 0}, {full, 0}, repeat(100, 3, 0), repeat(api.MaxLong, 1, 0),
		repeat(api.MaxLong+1, 0, 1), repeat(api.MaxLong+1, full, full), repeat(api.MaxLong+1, 2, 0),
	}
}

// value is a natural as math/big has it.
func value(n []uint32) *big.Int {
	b := make([]byte, 0, 4*len(n))
	for _, w := range slices.Backward(n) {
		b = append(b, byte(w>>24), byte(w>>16), byte(w>>8), byte(w))
	}
	return new(big.Int).SetBytes(b)
}

// times is a product as math/big has it.
func times(a, b *big.Int) *big.Int { return new(big.Int).Mul(a, b) }

// name tells a natural briefly.
func name(n []uint32) string {
	if len(n) > 8 {
		return fmt.Sprintf("[%d %d .. %d, %d limbs]", n[0], n[1], n[len(n)-1], len(n))
	}
	return fmt.Sprint(n)
}

// same complains unless got may be, and is what is wanted, or 0 where that is too long.
func same(t *testing.T, got []uint32, want *big.Int, what ...any) {
	t.Helper()
	if want.BitLen() > mostBits {
		want = new(big.Int)
	}
	if !nat.May(got) || value(got).Cmp(want) != 0 {
		t.Errorf("%s: got %s, want a number of %d bits", fmt.Sprint(what...), name(got), want.BitLen())
	}
}

// equal complains unless two are the same natural.
func equal(t *testing.T, a, b []uint32, what ...any) {
	t.Helper()
	if !slices.Equal(a, b) {
		t.Errorf("%s: %s and %s", fmt.Sprint(what...), name(a), name(b))
	}
}

// none complains unless got is 0.
func none(t *testing.T, got []uint32, what ...any) {
	t.Helper()
	if len(got) != 0 {
		t.Errorf("%s: got %s, want 0", fmt.Sprint(what...), name(got))
	}
}

func TestExamples(t *testing.T) {
	equal(t, mul.Mul([]uint32{full}, []uint32{full}), []uint32{1, 4294967294}, "Mul")
	equal(t, mul.Small([]uint32{0, 1}, 10, 7), []uint32{7, 10}, "Small")
	equal(t, mul.Pow([]uint32{10}, 20), nat.Add(mul.Mul(nat.Of(1e10), nat.Of(1e10)), nil), "10 to the 20")
	equal(t, mul.Pow([]uint32{10}, 20), []uint32{1661992960, 1808227885, 5}, "10 to the 20")
	equal(t, mul.Pow(nil, 0), []uint32{1}, "0 to the 0")
	equal(t, mul.Sum([][]uint32{{2}, {3}}, [][]uint32{{5}, {7}, {9}}), []uint32{31}, "Sum")
}

// P2.1: products, and squares, of all lengths that are parted in another way.
func TestP2_1MulSquare(t *testing.T) {
	l := append(few(), many()...)
	for _, a := range l {
		x := value(a)
		same(t, mul.Square(a), times(x, x), "Square ", name(a))
		for _, b := range l {
			same(t, mul.Mul(a, b), times(x, value(b)), "Mul ", name(a), name(b))
		}
	}
}

// P2.1: of every length about the one at which parting begins.
func TestP2_1EachLength(t *testing.T) {
	for long := 1; long < 300; long++ {
		a, top := mixed(long), repeat(long, full, full)
		same(t, mul.Square(a), times(value(a), value(a)), "Square ", long)
		same(t, mul.Square(top), times(value(top), value(top)), "Square, full ", long)
		for _, b := range [][]uint32{mixed(64), mixed(97), repeat(150, full, full), mixed(300)} {
			same(t, mul.Mul(a, b), times(value(a), value(b)), "Mul ", long, name(b))
			same(t, mul.Mul(b, top), times(value(b), value(top)), "Mul, full ", long, name(b))
		}
	}
}

// P2.1: long ones, of one length and of others.
func TestP2_1Long(t *testing.T) {
	for _, x := range []struct{ a, b int }{{1000, 1000}, {5000, 3000}, {60000, 5000}, {65000, 70}, {32768, 32768}, {43690, 21846}} {
		a, b := mixed(x.a), mixed(x.b)
		same(t, mul.Mul(a, b), times(value(a), value(b)), "Mul ", x.a, x.b)
		same(t, mul.Mul(b, a), times(value(a), value(b)), "Mul ", x.b, x.a)
	}
	a := mixed(32768)
	same(t, mul.Square(a), times(value(a), value(a)), "Square")
}

// P2.1, Errors: products of just as many limbs as may be, and of one more.
func TestP2_1Longest(t *testing.T) {
	const half = api.MaxLong / 2
	for _, x := range []struct {
		a, b []uint32
		is   bool
	}{
		{repeat(half, full, full), repeat(half, full, full), true},
		{repeat(half, full, full), repeat(half+1, 0, 1), true},
		{repeat(half, full, 2), repeat(half+1, full, 2), true},
		{repeat(half, full, full), repeat(half+1, 0, 2), false},
		{repeat(half, 0, 1<<31), repeat(half+1, 0, 2), false},
		{repeat(half, 0, 1<<31), repeat(half+1, full, 1), true},
		{repeat(half+1, 0, 1), repeat(half+1, 0, 1), false},
		{repeat(api.MaxLong, full, full), []uint32{1}, true},
		{repeat(api.MaxLong, full, full), []uint32{2}, false},
		{repeat(api.MaxLong, full, 1<<31-1), []uint32{2}, true},
		{repeat(api.MaxLong, 0, 1), []uint32{full}, true},
		{repeat(api.MaxLong, 0, 1), []uint32{0, 1}, false},
		{repeat(api.MaxLong, full, full), repeat(api.MaxLong, full, full), false},
	} {
		want := times(value(x.a), value(x.b))
		if x.is != (want.BitLen() <= mostBits) {
			t.Fatal("the row is wrong", name(x.a), name(x.b))
		}
		same(t, mul.Mul(x.a, x.b), want, "Mul ", name(x.a), name(x.b))
		same(t, mul.Mul(x.b, x.a), want, "Mul ", name(x.b), name(x.a))
	}
	none(t, mul.Mul(repeat(api.MaxLong, full, full), nil), "the longest one and 0")
	same(t, mul.Square(repeat(half, full, full)), times(value(repeat(half, full, full)), value(repeat(half, full, full))), "the longest square")
	none(t, mul.Square(repeat(half+1, 0, 1)), "2^(2^20), squared")
	none(t, mul.Square(repeat(api.MaxLong, full, full)), "the longest one, squared")
}

// P2.1: the product with one limb, and another one added.
func TestP2_1Small(t *testing.T) {
	limbs := []uint32{0, 1, 2, 10, 1000000000, 1 << 31, full - 1, full}
	long := [][]uint32{repeat(api.MaxLong, full, full), repeat(api.MaxLong, 0, 1), repeat(api.MaxLong, full, 1<<31-1), repeat(api.MaxLong-1, full, full)}
	for _, a := range slices.Concat(few(), many()[:10], long) {
		for _, w := range limbs {
			for _, more := range limbs {
				want := times(value(a), value(nat.Of(uint64(w))))
				want.Add(want, value(nat.Of(uint64(more))))
				same(t, mul.Small(a, w, more), want, "Small ", name(a), w, more)
			}
		}
	}
	top := repeat(api.MaxLong, full, full)
	none(t, mul.Small(top, 1, 1), "the longest one, and 1")
	equal(t, mul.Small(top, 1, 0), top, "the longest one")
	equal(t, mul.Small(top, 0, 5), []uint32{5}, "0 times the longest one, and 5")
}

// P2.2: powers, with k below 0.
func TestP2_2Pow(t *testing.T) {
	for _, a := range append(few(), mixed(64), mixed(130)) {
		for k := range 40 {
			same(t, mul.Pow(a, k), new(big.Int).Exp(value(a), big.NewInt(int64(k)), nil), "Pow ", name(a), k)
		}
		for _, k := range []int{-1, -2, -64, math.MinInt} {
			none(t, mul.Pow(a, k), "Pow ", name(a), k)
		}
	}
	for _, k := range []int{0, 1, 2, 63, 1 << 40, math.MaxInt} {
		equal(t, mul.Pow([]uint32{1}, k), []uint32{1}, "1 to the ", k)
		if k > 0 {
			none(t, mul.Pow(nil, k), "0 to the ", k)
		}
	}
}

// P2.2, Errors: powers of just as many limbs as may be, and longer ones.
func TestP2_2LongestPow(t *testing.T) {
	one := nat.Of(1)
	equal(t, mul.Pow(nat.Of(2), mostBits-1), nat.Shl(one, mostBits-1), "2, to the greatest")
	equal(t, mul.Pow([]uint32{0, 1}, api.MaxLong-1), nat.Shl(one, mostBits-32), "2^32, to the greatest")
	equal(t, mul.Pow([]uint32{0, 1 << 31}, (mostBits-1)/63), nat.Shl(one, (mostBits-1)/63*63), "2^63, to the greatest")
	const k = 1323155 // 3^k is less than 2^mostBits, 3^(k+1) is not
	three := mul.Pow(nat.Of(3), k)
	if nat.Bits(three) != mostBits {
		t.Fatal("3, to the greatest", nat.Bits(three))
	}
	same(t, three, new(big.Int).Exp(big.NewInt(3), big.NewInt(k), nil), "3, to the greatest")
	none(t, mul.Pow(nat.Of(3), k+1), "3, to one more")
	for _, x := range []struct {
		a []uint32
		k int
	}{
		{nat.Of(2), mostBits}, {nat.Of(2), mostBits + 1}, {nat.Of(2), 1 << 40}, {nat.Of(2), math.MaxInt}, {nat.Of(3), math.MaxInt},
		{nat.Of(3), mostBits - 1}, {[]uint32{0, 1}, api.MaxLong}, {[]uint32{full}, api.MaxLong + 1}, {[]uint32{0, 1 << 31}, (mostBits-1)/63 + 1},
		{repeat(api.MaxLong, 0, 1), 2}, {repeat(api.MaxLong, full, full), math.MaxInt},
	} {
		none(t, mul.Pow(x.a, x.k), "Pow ", name(x.a), x.k)
	}
	equal(t, mul.Pow(repeat(api.MaxLong, full, full), 1), repeat(api.MaxLong, full, full), "the longest one, to the 1")
	equal(t, mul.Pow(repeat(api.MaxLong, full, full), 0), one, "the longest one, to the 0")
}

// sumOf is Sum as math/big has it, where nothing is too long.
func sumOf(a, b [][]uint32) *big.Int {
	sum := new(big.Int)
	for k := range min(len(a), len(b)) {
		sum.Add(sum, times(value(a[k]), value(b[k])))
	}
	return sum
}

// P2.2: sums of products, of the longer list's rest nothing.
func TestP2_2Sum(t *testing.T) {
	l := append(few(), many()...)
	r := rand.New(rand.NewSource(2))
	for range 200 {
		a, b := make([][]uint32, r.Intn(12)), make([][]uint32, r.Intn(12))
		for _, x := range [][][]uint32{a, b} {
			for k := range x {
				x[k] = l[r.Intn(len(l))]
			}
		}
		same(t, mul.Sum(a, b), sumOf(a, b), "Sum of ", len(a), len(b))
	}
	a := slices.Repeat([][]uint32{{full, full}}, 1000)
	same(t, mul.Sum(a, a), sumOf(a, a), "Sum of carries")
	none(t, mul.Sum(nil, nil), "Sum of nothing")
	none(t, mul.Sum(a, nil), "Sum with nothing")
	none(t, mul.Sum([][]uint32{}, a), "Sum with nothing")
	none(t, mul.Sum([][]uint32{nil, {}}, [][]uint32{{}, {5}}), "Sum of 0s")
	equal(t, mul.Sum([][]uint32{nil, {3}, nil}, [][]uint32{{7}, {5}, {}}), []uint32{15}, "Sum with 0s")
}

// P2.2: a number that may not be stands anywhere; in the longer one's rest it is nothing.
func TestP2_2SumWrong(t *testing.T) {
	for _, n := range wrong() {
		for k := range 3 {
			a, b := [][]uint32{{2}, nil, {4}}, [][]uint32{{5}, nil, {7}}
			a[k] = n
			none(t, mul.Sum(a, b), "Sum ", name(n), k)
			none(t, mul.Sum(b, a), "Sum ", name(n), k)
		}
		a, b := [][]uint32{{2}, {3}, n}, [][]uint32{{5}, {7}}
		equal(t, mul.Sum(a, b), []uint32{31}, "the rest ", name(n))
		equal(t, mul.Sum(b, a), []uint32{31}, "the rest ", name(n))
		none(t, mul.Sum(a, [][]uint32{n}), "both in one row ", name(n))
	}
}

// P2.2: a product that is too long, and a sum that is, wherever it comes to be so.
func TestP2_2SumTooLong(t *testing.T) {
	one, top := nat.Of(1), repeat(api.MaxLong, full, full)
	last := repeat(api.MaxLong, 0, 1<<31)
	for _, x := range []struct {
		what string
		a, b [][]uint32
	}{
		{"the first product", [][]uint32{top, one}, [][]uint32{{2}, one}},
		{"the last product", [][]uint32{one, one, top}, [][]uint32{{2}, one, {2}}},
		{"a product that is seen to be so", [][]uint32{one, top}, [][]uint32{one, top}},
		{"a product of one limb more", [][]uint32{{5}, repeat(api.MaxLong/2, full, full)}, [][]uint32{{5}, repeat(api.MaxLong/2+1, full, full)}},
		{"the sum", [][]uint32{top, one}, [][]uint32{one, one}},
		{"the sum, turned about", [][]uint32{one, top}, [][]uint32{one, one}},
		{"the sum, ahead of others", [][]uint32{last, last, {3}}, [][]uint32{one, one, {4}}},
	} {
		none(t, mul.Sum(x.a, x.b), x.what)
		none(t, mul.Sum(x.b, x.a), x.what)
	}
	equal(t, mul.Sum([][]uint32{top, top, one}, [][]uint32{one, nil, nil}), top, "the longest sum")
	less := slices.Clone(top)
	less[0]--
	equal(t, mul.Sum([][]uint32{less, one}, [][]uint32{one, one}), top, "a sum that is just the longest one")
	equal(t, mul.Sum([][]uint32{one, top}, [][]uint32{one}), one, "a product in the rest")
}

// Errors: what is handed a natural that may not be says 0.
func TestWrong(t *testing.T) {
	for _, n := range wrong() {
		for _, b := range slices.Concat(few()[:6], many()[:2], wrong()) {
			none(t, mul.Mul(n, b), "Mul ", name(n), name(b))
			none(t, mul.Mul(b, n), "Mul ", name(b), name(n))
		}
		none(t, mul.Square(n), "Square ", name(n))
		for _, w := range []uint32{0, 1, full} {
			none(t, mul.Small(n, w, 0), "Small ", name(n), w)
			none(t, mul.Small(n, w, 5), "Small ", name(n), w)
		}
		for _, k := range []int{math.MinInt, -1, 0, 1, 2, 3, 1 << 40, math.MaxInt} {
			none(t, mul.Pow(n, k), "Pow ", name(n), k)
		}
	}
}

// P2.3: products, turned about, begun elsewhere, with a sum, with 1 and 0.
func TestP2_3Products(t *testing.T) {
	l := slices.Concat(few(), [][]uint32{mixed(63), mixed(64), mixed(100), mixed(129), repeat(128, full, full), repeat(70, 0, 1)})
	for _, a := range l {
		equal(t, mul.Mul(a, []uint32{1}), nat.Add(a, nil), "with 1 ", name(a))
		none(t, mul.Mul(a, nil), "with 0 ", name(a))
		none(t, mul.Mul([]uint32{}, a), "with 0 ", name(a))
		for _, b := range l {
			ab := mul.Mul(a, b)
			equal(t, ab, mul.Mul(b, a), "turned about ", name(a), name(b))
			for _, c := range l {
				equal(t, mul.Mul(ab, c), mul.Mul(a, mul.Mul(b, c)), "begun elsewhere ", name(a), name(b), name(c))
				sum := nat.Add(ab, mul.Mul(a, c))
				equal(t, mul.Mul(a, nat.Add(b, c)), sum, "with a sum ", name(a), name(b), name(c))
				equal(t, mul.Sum([][]uint32{a, a}, [][]uint32{b, c}), sum, "Sum ", name(a), name(b), name(c))
			}
		}
	}
}

// P2.4: how products and squares stand, and how many bits they have.
func TestP2_4Order(t *testing.T) {
	l := append(few(), many()[:30]...)
	for _, a := range l {
		for _, b := range l {
			if nat.Cmp(mul.Square(a), mul.Square(b)) != nat.Cmp(a, b) {
				t.Error("squares", name(a), name(b))
			}
			if len(a) == 0 || len(b) == 0 {
				continue
			}
			ab := mul.Mul(a, b)
			if nat.Cmp(ab, a) < 0 || nat.Cmp(ab, b) < 0 {
				t.Error("less", name(a), name(b))
			}
			if both := nat.Bits(a) + nat.Bits(b); nat.Bits(ab) != both && nat.Bits(ab) != both-1 {
				t.Error("bits", name(a), name(b), nat.Bits(ab))
			}
		}
	}
}

// P2.5: powers of sums of exponents, of products, and of 2.
func TestP2_5Powers(t *testing.T) {
	l := append(few(), mixed(40), repeat(20, full, full))
	for _, a := range l {
		for j := range 8 {
			for k := range 8 {
				equal(t, mul.Pow(a, j+k), mul.Mul(mul.Pow(a, j), mul.Pow(a, k)), "exponents ", name(a), j, k)
			}
			for _, b := range l {
				equal(t, mul.Pow(mul.Mul(a, b), j), mul.Mul(mul.Pow(a, j), mul.Pow(b, j)), "a product ", name(a), name(b), j)
			}
		}
	}
	for _, k := range []int{0, 1, 31, 32, 33, 100, 4095, 4096, 4097, 99999, mostBits - 1, mostBits} {
		equal(t, mul.Pow(nat.Of(2), k), nat.Shl(nat.Of(1), k), "2 to the ", k)
	}
}

// P2.6: the square of a sum.
func TestP2_6Squares(t *testing.T) {
	l := append(few(), many()...)
	for _, a := range l {
		equal(t, mul.Square(a), mul.Mul(a, a), "with itself ", name(a))
		for _, b := range l {
			both := nat.Add(mul.Square(a), mul.Square(b))
			equal(t, mul.Square(nat.Add(a, b)), nat.Add(both, nat.Shl(mul.Mul(a, b), 1)), "a sum ", name(a), name(b))
		}
	}
}

// R1: what is handed in stays, also behind its end, and what is told shares no memory with it.
func TestR1Memory(t *testing.T) {
	calls := []func(a, b []uint32) []uint32{
		mul.Mul,
		func(a, b []uint32) []uint32 { return mul.Small(a, 1, 0) },
		func(a, b []uint32) []uint32 { return mul.Small(a, full, full) },
		func(a, b []uint32) []uint32 { return mul.Square(a) },
		func(a, b []uint32) []uint32 { return mul.Pow(a, 0) },
		func(a, b []uint32) []uint32 { return mul.Pow(a, 1) },
		func(a, b []uint32) []uint32 { return mul.Pow(a, 5) },
		func(a, b []uint32) []uint32 { return mul.Sum([][]uint32{a, b}, [][]uint32{b, a, a}) },
		func(a, b []uint32) []uint32 { return mul.Sum([][]uint32{a, {1}}, [][]uint32{{1}, b}) },
	}
	behind := []uint32{9, 9, 9}
	l := append(few(), mixed(64), mixed(129), repeat(128, full, full))
	for i, call := range calls {
		for _, a := range l {
			for _, b := range l {
				x, y := slices.Concat(a, behind), slices.Concat(b, behind)
				got := call(x[:len(a)], y[:len(b)])
				for k := range got[:cap(got)] {
					got[:cap(got)][k] ^= full
				}
				if !slices.Equal(x, slices.Concat(a, behind)) || !slices.Equal(y, slices.Concat(b, behind)) {
					t.Fatal("call", i, name(a), name(b))
				}
			}
		}
	}
}

// R1: lists that are handed in stay as they are, also behind their end.
func TestR1Lists(t *testing.T) {
	a, b := [][]uint32{{2}, {3}, {4}, {5}}, [][]uint32{{5}, {7}, {9}}
	equal(t, mul.Sum(a[:2], b), []uint32{31}, "Sum")
	for k, n := range [][]uint32{{2}, {3}, {4}, {5}} {
		equal(t, a[k], n, "the first list, at ", k)
	}
	for k, n := range [][]uint32{{5}, {7}, {9}} {
		equal(t, b[k], n, "the second list, at ", k)
	}
}
