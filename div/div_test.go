package div_test

import (
	"fmt"
	"math"
	"math/big"
	"math/rand"
	"slices"
	"testing"

	"alidade/api"
	"alidade/div"
	"alidade/mul"
	"alidade/nat"
)

const (
	full     = math.MaxUint32
	mostBits = 32 * api.MaxLong
)

// repeat is a natural of so many limbs, all the same but for the last one.
func repeat(long int, limb, last uint32) []uint32 {
	n := slices.Repeat([]uint32{limb}, long)
	n[long-1] = last
	return n
}

// mixed is a natural of so many limbs: some of them edges, others of a fixed seed, stretches of 0 and of full ones among them.
func mixed(long int) []uint32 {
	r := rand.New(rand.NewSource(int64(long)))
	n := make([]uint32, 0, long)
	for len(n) < long {
		stretch := slices.Repeat([]uint32{[]uint32{0, full, 1 << 31}[r.Intn(3)]}, 1+r.Intn(1+long/3))
		n = append(n, r.Uint32(), r.Uint32())
		n = append(n, stretch...)
	}
	n = n[:long:long]
	n[long-1] |= 1
	return n
}

// few are naturals of few limbs.
func few() [][]uint32 {
	return [][]uint32{
		nil, {}, {1}, {2}, {3}, {7}, {10}, {1 << 16}, {1 << 31}, {full - 1}, {full},
		{0, 1}, {1, 1}, {full, 1}, {0, full}, {full, full}, {0, 1 << 31}, {full, 1<<31 - 1},
		{0, 0, 1}, {full, full, full}, {full, 0, full}, {0, full, 1}, mixed(4), mixed(5), mixed(7), mixed(12),
	}
}

// many are longer ones.
func many() [][]uint32 {
	var l [][]uint32
	for _, long := range []int{20, 33, 64, 65, 150} {
		hole := repeat(long, 0, full)
		hole[0] = 5
		l = append(l, mixed(long), repeat(long, full, full), repeat(long, 0, 1), repeat(long, full, 1<<31-1), hole)
	}
	return l
}

// edged are all naturals of so many limbs, each of which is one of some edges.
func edged(long int, edges ...uint32) [][]uint32 {
	l := [][]uint32{nil}
	for range long {
		var longer [][]uint32
		for _, n := range l {
			for _, w := range edges {
				longer = append(longer, append(slices.Clone(n), w))
			}
		}
		l = longer
	}
	return slices.DeleteFunc(l, func(n []uint32) bool { return !nat.May(n) })
}

// wrong are naturals that may not be.
func wrong() [][]uint32 {
	return [][]uint32{
		{0}, {1, 0}, {0, 0, 0}, {full, 0}, repeat(100, 3, 0), repeat(api.MaxLong, 1, 0),
		repeat(api.MaxLong+1, 0, 1), repeat(api.MaxLong+1, full, full), repeat(api.MaxLong+1, 2, 0),
	}
}

// value is a natural as math/big has it.
func value(n []uint32) *big.Int {
	b := make([]byte, 0, 4*len(n))
	for _, w := range slices.Backward(n) {
		b = append(b, byte(w>>24), byte(w>>16), byte(w>>8), byte(w))
	}
	return new(big.Int).SetBytes(b)
}

// name tells a natural briefly.
func name(n []uint32) string {
	if len(n) > 8 {
		return fmt.Sprintf("[%d %d .. %d, %d limbs]", n[0], n[1], n[len(n)-1], len(n))
	}
	return fmt.Sprint(n)
}

// same complains unless got may be, and is what is wanted.
func same(t *testing.T, got []uint32, want *big.Int, what ...any) {
	t.Helper()
	if !nat.May(got) || value(got).Cmp(want) != 0 {
		t.Errorf("%s: got %s, want a number of %d bits", fmt.Sprint(what...), name(got), want.BitLen())
	}
}

// equal complains unless two are the same natural.
func equal(t *testing.T, got, want []uint32, what ...any) {
	t.Helper()
	if !slices.Equal(got, want) {
		t.Errorf("%s: got %s, want %s", fmt.Sprint(what...), name(got), name(want))
	}
}

// divided is DivMod of what it is told of.
func divided(t *testing.T, a, b []uint32) (q, r []uint32) {
	t.Helper()
	q, r, e := div.DivMod(a, b)
	if e != api.OK {
		t.Errorf("DivMod %s %s: %v", name(a), name(b), e)
	}
	return q, r
}

// check holds DivMod against math/big.
func check(t *testing.T, a, b []uint32) {
	t.Helper()
	q, r := divided(t, a, b)
	wantQ, wantR := new(big.Int).QuoRem(value(a), value(b), new(big.Int))
	same(t, q, wantQ, "quotient ", name(a), name(b))
	same(t, r, wantR, "remainder ", name(a), name(b))
}

// refused complains unless DivMod tells an error, and nothing else.
func refused(t *testing.T, a, b []uint32, want api.Errno) {
	t.Helper()
	if q, r, e := div.DivMod(a, b); len(q) != 0 || len(r) != 0 || e != want {
		t.Errorf("DivMod %s %s: %s %s %v, want %v", name(a), name(b), name(q), name(r), e, want)
	}
}

// refusedSmall complains unless Small tells an error, and nothing else.
func refusedSmall(t *testing.T, a []uint32, w uint32, want api.Errno) {
	t.Helper()
	if q, r, e := div.Small(a, w); len(q) != 0 || r != 0 || e != want {
		t.Errorf("Small %s %d: %s %d %v, want %v", name(a), w, name(q), r, e, want)
	}
}

func TestExamples(t *testing.T) {
	for _, x := range []struct{ a, b, q, r []uint32 }{
		{nat.Of(100), nat.Of(7), nat.Of(14), nat.Of(2)},
		{[]uint32{0, 0, 1}, []uint32{1, 1}, []uint32{full}, nat.Of(1)},
		{nat.Of(5), nat.Of(9), nil, nat.Of(5)},
	} {
		q, r := divided(t, x.a, x.b)
		equal(t, q, x.q, "quotient ", x.a, x.b)
		equal(t, r, x.r, "remainder ", x.a, x.b)
	}
	refused(t, nat.Of(5), nil, api.ErrZero)
	for _, x := range []struct{ n, root uint64 }{{99, 9}, {100, 10}, {0, 0}} {
		equal(t, div.Root(nat.Of(x.n)), nat.Of(x.root), "Root ", x.n)
	}
	q, w, e := div.Small([]uint32{0, 1}, 10)
	equal(t, q, []uint32{429496729}, "Small")
	if w != 6 || e != api.OK {
		t.Error("Small", w, e)
	}
}

// P3.1: quotients of all lengths, by all lengths.
func TestP3_1DivMod(t *testing.T) {
	l := append(few(), many()...)
	for _, a := range l {
		for _, b := range l {
			if len(b) > 0 {
				check(t, a, b)
			}
		}
	}
	for long := 1; long < 80; long++ {
		for short := 1; short <= long+1; short += 1 + short/4 {
			check(t, mixed(long), mixed(short))
			check(t, repeat(long, full, full), mixed(short))
			check(t, mixed(long), repeat(short, full, full))
			check(t, repeat(long, 0, 1), repeat(short, full, 1))
		}
	}
}

// P3.1: limbs at edges, by which guesses are too great, in all the ways there are: by one, by two, by what the divisor's first limbs do not tell.
func TestP3_1Guesses(t *testing.T) {
	for _, b := range slices.Concat(edged(2, 0, 1, 2, 1<<31-1, 1<<31, 1<<31+1, full-1, full), edged(3, 0, 1, 1<<31-1, 1<<31, full)) {
		for _, a := range slices.Concat(edged(3, 0, 1, 1<<31-1, 1<<31, full-1, full), edged(4, 0, 1<<31-1, 1<<31, full)) {
			check(t, a, b)
		}
	}
	// What is just less than a multiple of the divisor, and what is just that.
	for _, b := range slices.Concat(few()[11:], many()) {
		for _, q := range slices.Concat(few()[2:], many()) {
			product := mul.Mul(q, b)
			less, _ := nat.Sub(product, nat.Of(1))
			check(t, product, b)
			check(t, less, b)
			check(t, nat.Add(product, nat.Of(1)), b)
		}
	}
}

// P3.1: the longest ones, which have no room to be shifted in.
func TestP3_1Longest(t *testing.T) {
	tops := [][]uint32{
		repeat(api.MaxLong, full, full), repeat(api.MaxLong, 0, 1), repeat(api.MaxLong, 0, 1<<31), mixed(api.MaxLong),
	}
	short := [][]uint32{
		{1}, {2}, {10}, {full}, {1, 1}, {full, 1}, {full, full}, {0, 1 << 31}, {7, 0, 1}, mixed(100), repeat(90, full, 1),
		repeat(api.MaxLong, full, full), repeat(api.MaxLong, 0, 1), repeat(api.MaxLong, 1, 1), repeat(api.MaxLong, 0, 1<<31),
		repeat(api.MaxLong-1, full, full), repeat(api.MaxLong-1, 0, 1), repeat(api.MaxLong-1, 3, 1<<30), mixed(api.MaxLong - 20),
	}
	for _, a := range tops {
		for _, b := range short {
			check(t, a, b)
			check(t, b, a)
		}
	}
	check(t, tops[0], mixed(api.MaxLong/2))
	check(t, tops[3], repeat(20000, full, 1))
}

// P3.1: by one limb, as by a natural that is one.
func TestP3_1Small(t *testing.T) {
	long := [][]uint32{repeat(api.MaxLong, full, full), repeat(api.MaxLong, 0, 1), mixed(api.MaxLong - 1)}
	for _, a := range slices.Concat(few(), many(), long) {
		for _, w := range []uint32{1, 2, 3, 9, 10, 1 << 16, 1000000000, 1<<31 - 1, 1 << 31, 1<<31 + 1, full - 1, full} {
			q, r, e := div.Small(a, w)
			wantQ, wantR := new(big.Int).QuoRem(value(a), value(nat.Of(uint64(w))), new(big.Int))
			same(t, q, wantQ, "Small ", name(a), w)
			if uint64(r) != wantR.Uint64() || e != api.OK {
				t.Error("Small", name(a), w, r, e)
			}
			check(t, a, []uint32{w})
		}
	}
}

// P3.2: roots of all small naturals, and of longer ones.
func TestP3_2Root(t *testing.T) {
	for n := range uint64(5000) {
		same(t, div.Root(nat.Of(n)), new(big.Int).Sqrt(new(big.Int).SetUint64(n)), "Root ", n)
	}
	for k := range 300 {
		n := nat.Shl(nat.Of(1), k)
		less, _ := nat.Sub(n, nat.Of(1))
		same(t, div.Root(n), new(big.Int).Sqrt(value(n)), "Root of 2 to the ", k)
		same(t, div.Root(less), new(big.Int).Sqrt(value(less)), "Root of 1 less than 2 to the ", k)
		same(t, div.Root(nat.Add(n, nat.Of(1))), new(big.Int).Sqrt(value(nat.Add(n, nat.Of(1)))), "Root of 1 more than 2 to the ", k)
	}
	for _, n := range slices.Concat(few(), many(), edged(3, 0, 1, 1<<31, full), [][]uint32{mixed(1000), repeat(777, full, 2)}) {
		same(t, div.Root(n), new(big.Int).Sqrt(value(n)), "Root ", name(n))
	}
}

// P3.2: the root of the longest one, and of other long ones.
func TestP3_2Longest(t *testing.T) {
	equal(t, div.Root(repeat(api.MaxLong, full, full)), repeat(api.MaxLong/2, full, full), "Root of the longest one")
	for _, n := range [][]uint32{mixed(9000), repeat(9001, full, full), nat.Shl(nat.Of(1), mostBits/8)} {
		same(t, div.Root(n), new(big.Int).Sqrt(value(n)), "Root ", name(n))
	}
}

// Errors: what may not be goes ahead of a divisor that is 0; with an error nothing else is told.
func TestWrong(t *testing.T) {
	for _, n := range wrong() {
		for _, b := range slices.Concat(few(), many()[:2], wrong()) {
			refused(t, n, b, api.ErrForm)
			refused(t, b, n, api.ErrForm)
		}
		for _, w := range []uint32{0, 1, 10, full} {
			refusedSmall(t, n, w, api.ErrForm)
		}
		if root := div.Root(n); len(root) != 0 {
			t.Error("Root", name(n), name(root))
		}
	}
	for _, a := range slices.Concat(few(), many(), [][]uint32{repeat(api.MaxLong, full, full)}) {
		refused(t, a, nil, api.ErrZero)
		refused(t, a, []uint32{}, api.ErrZero)
		refusedSmall(t, a, 0, api.ErrZero)
	}
}

// P3.3: the quotient times the divisor, and the remainder, are the natural; no other two are so.
func TestP3_3Parted(t *testing.T) {
	l := append(few(), many()...)
	for _, a := range l {
		for _, b := range l {
			if len(b) == 0 {
				continue
			}
			q, r := divided(t, a, b)
			equal(t, nat.Add(mul.Mul(q, b), r), nat.Add(a, nil), "put together ", name(a), name(b))
			if nat.Cmp(r, b) >= 0 {
				t.Error("the remainder is not less", name(a), name(b), name(r))
			}
			if nat.Cmp(mul.Mul(nat.Add(q, nat.Of(1)), b), a) <= 0 {
				t.Error("a greater quotient", name(a), name(b), name(q))
			}
		}
	}
}

// P3.4: a product, and one with something less than the divisor added, is divided by one of both.
func TestP3_4Products(t *testing.T) {
	l := slices.Concat(few(), many())
	for _, a := range l {
		for _, b := range l {
			if len(b) == 0 {
				continue
			}
			product := mul.Mul(a, b)
			q, r := divided(t, product, b)
			equal(t, q, a, "a product ", name(a), name(b))
			equal(t, r, nil, "a product ", name(a), name(b))
			most, _ := nat.Sub(b, nat.Of(1))
			for _, more := range [][]uint32{nat.Shr(b, 1), most} {
				if nat.Cmp(more, b) < 0 {
					q, r = divided(t, nat.Add(product, more), b)
					equal(t, q, a, "a product, and more ", name(a), name(b))
					equal(t, r, more, "a product, and more ", name(a), name(b))
				}
			}
		}
	}
}

// P3.5: divided by two, one behind the other, and by powers of 2.
func TestP3_5OneBehindTheOther(t *testing.T) {
	l := slices.Concat(few(), [][]uint32{mixed(30), repeat(40, full, full), repeat(25, 0, 1)})
	for _, a := range l {
		for _, b := range l[2:] {
			for _, c := range l[2:] {
				byB, _ := divided(t, a, b)
				both, _ := divided(t, byB, c)
				once, _ := divided(t, a, mul.Mul(b, c))
				equal(t, both, once, "by two ", name(a), name(b), name(c))
			}
		}
	}
	for _, a := range append(l, mixed(api.MaxLong)) {
		for _, k := range []int{0, 1, 5, 31, 32, 33, 63, 64, 65, 100, 960, 1000} {
			q, r := divided(t, a, nat.Shl(nat.Of(1), k))
			equal(t, q, nat.Shr(a, k), "by 2 to the ", k, name(a))
			below, _ := nat.Sub(a, nat.Shl(q, k))
			equal(t, r, below, "by 2 to the ", k, name(a))
		}
	}
}

// P3.6: the root's square is not greater, that of the next one is; the root of a square is its side; roots do not fall.
func TestP3_6Roots(t *testing.T) {
	l := slices.Concat(few(), many(), edged(2, 0, 1, 1<<31-1, 1<<31, full))
	for _, a := range l {
		root := div.Root(a)
		if nat.Cmp(mul.Square(root), a) > 0 {
			t.Error("its square is greater", name(a), name(root))
		}
		if nat.Cmp(mul.Square(nat.Add(root, nat.Of(1))), a) <= 0 {
			t.Error("the next one's square is not", name(a), name(root))
		}
		side := nat.Add(a, nil)
		square := mul.Square(side)
		equal(t, div.Root(square), side, "a square ", name(a))
		equal(t, div.Root(nat.Add(square, nat.Shl(side, 1))), side, "the last one with the same root ", name(a))
		if less, is := nat.Sub(side, nat.Of(1)); is {
			belowSquare, _ := nat.Sub(square, nat.Of(1))
			equal(t, div.Root(belowSquare), less, "1 less than a square ", name(a))
		}
		for _, b := range l {
			if nat.Cmp(a, b) <= 0 && nat.Cmp(root, div.Root(b)) > 0 {
				t.Error("a root falls", name(a), name(b))
			}
		}
	}
}

// R1: what is handed in stays, also behind its end; what is told shares no memory with it, nor one result with another.
func TestR1Memory(t *testing.T) {
	calls := []func(a, b []uint32) [][]uint32{
		func(a, b []uint32) [][]uint32 { q, r, _ := div.DivMod(a, b); return [][]uint32{q, r} },
		func(a, b []uint32) [][]uint32 { q, _, _ := div.Small(a, 1); return [][]uint32{q} },
		func(a, b []uint32) [][]uint32 { q, _, _ := div.Small(a, 7); return [][]uint32{q} },
		func(a, b []uint32) [][]uint32 { return [][]uint32{div.Root(a)} },
	}
	behind := []uint32{9, 9, 9}
	l := slices.Concat(few(), many())
	for i, call := range calls {
		for _, a := range l {
			for _, b := range l {
				x, y := slices.Concat(a, behind), slices.Concat(b, behind)
				told := call(x[:len(a)], y[:len(b)])
				was := make([][]uint32, len(told))
				for k, n := range told {
					was[k] = slices.Clone(n)
				}
				for k, n := range told {
					if !slices.Equal(n, was[k]) {
						t.Fatal("two results share memory: call", i, name(a), name(b))
					}
					for j := range n[:cap(n)] {
						n[:cap(n)][j] ^= full
					}
				}
				if !slices.Equal(x, slices.Concat(a, behind)) || !slices.Equal(y, slices.Concat(b, behind)) {
					t.Fatal("call", i, name(a), name(b))
				}
			}
		}
	}
}
