package nat_test

import (
	"fmt"
	"math"
	"math/big"
	"math/rand"
	"slices"
	"testing"

	"alidade/api"
	"alidade/nat"
)

const (
	full     = math.MaxUint32
	mostBits = 32 * api.MaxLong
)

// repeat is a natural of so many limbs, all the same but for the last one.
func repeat(long int, limb, last uint32) []uint32 {
	n := make([]uint32, long)
	for k := range n {
		n[k] = limb
	}
	n[long-1] = last
	return n
}

// short are naturals of few limbs: edges, and some of a fixed seed.
func short() [][]uint32 {
	l := [][]uint32{
		nil, {}, {1}, {2}, {5}, {1 << 31}, {full - 1}, {full},
		{0, 1}, {1, 1}, {full, 1}, {0, full}, {full, full}, {0, 1 << 31}, {1, 0, 1},
		{0, 0, 1}, {full, full, full}, {full, 0, full}, {0, full, 1}, {0, 0, 0, 0, 1},
	}
	r := rand.New(rand.NewSource(1))
	edges := []uint32{0, 1, 1 << 31, full}
	for range 30 {
		n := make([]uint32, 1+r.Intn(6))
		for k := range n {
			n[k] = r.Uint32()
			if r.Intn(2) == 0 {
				n[k] = edges[r.Intn(len(edges))]
			}
		}
		n[len(n)-1] |= 1
		l = append(l, n)
	}
	return l
}

// long are naturals of just as many limbs as may be, and of one less.
func long() [][]uint32 {
	return [][]uint32{
		repeat(api.MaxLong, full, full),
		repeat(api.MaxLong, 0, 1),
		repeat(api.MaxLong, 7, 1<<31),
		repeat(api.MaxLong-1, full, full),
		repeat(api.MaxLong-1, 0, 1),
	}
}

// wrong are naturals that may not be.
func wrong() [][]uint32 {
	return [][]uint32{
		{0}, {0, 0}, {1, 0}, {full, full, 0}, {0, 1, 0, 0},
		repeat(api.MaxLong, 1, 0),
		repeat(api.MaxLong+1, 0, 1),
		repeat(api.MaxLong+1, full, full),
		repeat(api.MaxLong+2, 3, 0),
	}
}

// value is a natural as math/big has it.
func value(n []uint32) *big.Int {
	b := make([]byte, 0, 4*len(n))
	for k := len(n) - 1; k >= 0; k-- {
		b = append(b, byte(n[k]>>24), byte(n[k]>>16), byte(n[k]>>8), byte(n[k]))
	}
	return new(big.Int).SetBytes(b)
}

// power is 2^k as math/big has it.
func power(k int) *big.Int { return new(big.Int).Lsh(big.NewInt(1), uint(k)) }

// name tells a natural briefly.
func name(n []uint32) string {
	if len(n) > 8 {
		return fmt.Sprintf("[%d %d .. %d, %d limbs]", n[0], n[1], n[len(n)-1], len(n))
	}
	return fmt.Sprint(n)
}

// same complains unless got may be, and is what is wanted.
func same(t *testing.T, got []uint32, want *big.Int, what ...any) {
	t.Helper()
	if len(got) > api.MaxLong || len(got) > 0 && got[len(got)-1] == 0 || value(got).Cmp(want) != 0 {
		t.Errorf("%s: got %s, want a number of %d bits", fmt.Sprint(what...), name(got), want.BitLen())
	}
}

// none complains unless got is 0.
func none(t *testing.T, got []uint32, what ...any) {
	t.Helper()
	if len(got) != 0 {
		t.Errorf("%s: got %s, want 0", fmt.Sprint(what...), name(got))
	}
}

func TestExamples(t *testing.T) {
	none(t, nat.Of(0), "Of 0")
	for _, x := range []struct {
		what      string
		got, want []uint32
	}{
		{"Of 2^32", nat.Of(1 << 32), []uint32{0, 1}},
		{"2^32 - 1 and 1", nat.Add([]uint32{full}, nat.Of(1)), []uint32{0, 1}},
		{"1 by 33", nat.Shl([]uint32{1}, 33), []uint32{0, 2}},
		{"0, 2 by 33", nat.Shr([]uint32{0, 2}, 33), []uint32{1}},
	} {
		if !slices.Equal(x.got, x.want) {
			t.Error(x.what, x.got)
		}
	}
	if d, is := nat.Sub([]uint32{0, 1}, []uint32{1}); !is || !slices.Equal(d, []uint32{full}) {
		t.Error("2^32 less 1", d, is)
	}
	if k := nat.Bits(nat.Of(5)); k != 3 {
		t.Error("bits of 5", k)
	}
	if nat.May([]uint32{1, 0}) {
		t.Error("1, 0 may not be")
	}
}

// P1.1: which naturals may be, and which one a number is.
func TestP1_1MayOfLow(t *testing.T) {
	for _, n := range slices.Concat(short(), long()) {
		if !nat.May(n) {
			t.Error("may be:", name(n))
		}
		u, is := nat.Low(n)
		if want := value(n); is != want.IsUint64() || is && u != want.Uint64() || !is && u != 0 {
			t.Error("Low", name(n), u, is)
		}
	}
	for _, n := range wrong() {
		if nat.May(n) {
			t.Error("may not be:", name(n))
		}
	}
	for _, u := range []uint64{0, 1, full, full + 1, 1<<63 - 1, 1 << 63, 1<<63 + 7, math.MaxUint64} {
		n := nat.Of(u)
		same(t, n, new(big.Int).SetUint64(u), "Of ", u)
		if v, is := nat.Low(n); v != u || !is {
			t.Error("Low of Of", u, v, is)
		}
	}
}

// P1.1: how two stand, their sum, their difference.
func TestP1_1CmpAddSub(t *testing.T) {
	for _, a := range short() {
		for _, b := range short() {
			checkTwo(t, a, b)
		}
		for _, b := range long() {
			checkTwo(t, a, b)
			checkTwo(t, b, a)
		}
	}
	for _, a := range long() {
		for _, b := range long() {
			checkTwo(t, a, b)
		}
	}
}

func checkTwo(t *testing.T, a, b []uint32) {
	t.Helper()
	x, y := value(a), value(b)
	if got := nat.Cmp(a, b); got != x.Cmp(y) {
		t.Error("Cmp", name(a), name(b), got)
	}
	sum := new(big.Int).Add(x, y)
	if sum.BitLen() > mostBits {
		sum.SetInt64(0)
	}
	same(t, nat.Add(a, b), sum, "Add ", name(a), name(b))
	d, is := nat.Sub(a, b)
	if is != (x.Cmp(y) >= 0) {
		t.Error("Sub", name(a), name(b), is)
	}
	if is {
		same(t, d, new(big.Int).Sub(x, y), "Sub ", name(a), name(b))
	} else {
		none(t, d, "Sub ", name(a), name(b))
	}
}

// P1.1: a sum of just as many limbs as may be, and of one more.
func TestP1_1LongestSum(t *testing.T) {
	one := nat.Of(1)
	top := repeat(api.MaxLong, full, full)
	none(t, nat.Add(top, one), "the longest one and 1")
	none(t, nat.Add(one, top), "1 and the longest one")
	none(t, nat.Add(top, top), "the longest one, twice")
	same(t, nat.Add(top, nil), value(top), "the longest one and 0")
	if n := nat.Add(repeat(api.MaxLong-1, full, full), one); !slices.Equal(n, repeat(api.MaxLong, 0, 1)) {
		t.Error("a carry into the last limb", name(n))
	}
}

// P1.2: bits by their places.
func TestP1_2Bits(t *testing.T) {
	for _, n := range slices.Concat(short(), long()) {
		x := value(n)
		if got := nat.Bits(n); got != x.BitLen() {
			t.Error("Bits", name(n), got)
		}
		for k := range x.BitLen() + 70 {
			if nat.Bit(n, k) != (x.Bit(k) == 1) {
				t.Fatal("Bit", name(n), k)
			}
		}
		for _, k := range []int{-1, -32, -33, math.MinInt, mostBits, math.MaxInt} {
			if nat.Bit(n, k) {
				t.Error("Bit", name(n), k)
			}
		}
	}
}

// places are by how much is shifted: limbs' ends, and as far as may be.
func places() []int {
	return []int{0, 1, 5, 31, 32, 33, 63, 64, 65, 96, 127, 1000, mostBits - 33, mostBits - 32, mostBits - 1, mostBits, mostBits + 1, math.MaxInt - 1, math.MaxInt}
}

// P1.2: shifts, with k below 0 and far too great.
func TestP1_2Shifts(t *testing.T) {
	for _, n := range slices.Concat(short(), long()) {
		x := value(n)
		for _, k := range places() {
			left, right := new(big.Int), new(big.Int)
			if k <= mostBits {
				right.Rsh(x, uint(k))
			}
			if k <= mostBits-x.BitLen() {
				left.Lsh(x, uint(k))
			}
			same(t, nat.Shl(n, k), left, "Shl ", name(n), k)
			same(t, nat.Shr(n, k), right, "Shr ", name(n), k)
		}
		for _, k := range []int{-1, -31, -32, -33, math.MinInt} {
			none(t, nat.Shl(n, k), "Shl ", name(n), k)
			none(t, nat.Shr(n, k), "Shr ", name(n), k)
		}
	}
}

// P1.2: a shift to just as many limbs as may be, and to one more.
func TestP1_2LongestShift(t *testing.T) {
	same(t, nat.Shl(nat.Of(1), mostBits-1), power(mostBits-1), "1, to the last bit")
	none(t, nat.Shl(nat.Of(1), mostBits), "1, behind the last bit")
	none(t, nat.Shl(repeat(api.MaxLong, full, full), 1), "the longest one")
	last := repeat(api.MaxLong, 0, 1)
	same(t, nat.Shl(last, 31), power(mostBits-1), "the last limb, by 31")
	none(t, nat.Shl(last, 32), "the last limb, by 32")
}

// The section Errors: what may not be is answered by no, or by 0.
func TestWrong(t *testing.T) {
	for _, n := range wrong() {
		if u, is := nat.Low(n); is || u != 0 {
			t.Error("Low", name(n), u, is)
		}
		if nat.Bits(n) != 0 {
			t.Error("Bits", name(n))
		}
		for _, k := range []int{math.MinInt, -1, 0, 1, 32, mostBits - 1, mostBits, math.MaxInt} {
			if nat.Bit(n, k) {
				t.Error("Bit", name(n), k)
			}
			none(t, nat.Shl(n, k), "Shl ", name(n), k)
			none(t, nat.Shr(n, k), "Shr ", name(n), k)
		}
		for _, b := range slices.Concat(short()[:12], long(), wrong()) {
			checkWrong(t, n, b)
			checkWrong(t, b, n)
		}
	}
}

func checkWrong(t *testing.T, a, b []uint32) {
	t.Helper()
	if got := nat.Cmp(a, b); got != 0 {
		t.Error("Cmp", name(a), name(b), got)
	}
	none(t, nat.Add(a, b), "Add ", name(a), name(b))
	d, is := nat.Sub(a, b)
	none(t, d, "Sub ", name(a), name(b))
	if is {
		t.Error("Sub", name(a), name(b))
	}
}

// P1.3: sums.
func TestP1_3Sums(t *testing.T) {
	l := short()
	for _, a := range l {
		for _, b := range l {
			sum := nat.Add(a, b)
			if !slices.Equal(sum, nat.Add(b, a)) {
				t.Error("turned about", a, b)
			}
			if d, is := nat.Sub(sum, a); !is || !slices.Equal(d, b) {
				t.Error("the other one", a, b, d, is)
			}
			wantCmp := 1
			if len(b) == 0 {
				wantCmp = 0
			}
			if nat.Cmp(sum, a) != wantCmp {
				t.Error("greater", a, b)
			}
			for _, c := range l {
				if !slices.Equal(nat.Add(sum, c), nat.Add(a, nat.Add(b, c))) {
					t.Error("wherever it is begun", a, b, c)
				}
			}
		}
	}
}

// P1.4: a row.
func TestP1_4Row(t *testing.T) {
	l := append(short(), long()...)
	for _, a := range l {
		for _, b := range l {
			ab := nat.Cmp(a, b)
			if ab != -nat.Cmp(b, a) {
				t.Error("turned about", name(a), name(b))
			}
			if ab == 0 != slices.Equal(a, b) {
				t.Error("the same limbs", name(a), name(b), ab)
			}
			if _, is := nat.Sub(a, b); is != (ab >= 0) {
				t.Error("Sub is told", name(a), name(b), is)
			}
		}
	}
	for _, a := range l {
		for _, b := range l {
			for _, c := range l {
				if nat.Cmp(a, b) <= 0 && nat.Cmp(b, c) <= 0 && nat.Cmp(a, c) > 0 {
					t.Error("a row", name(a), name(b), name(c))
				}
			}
		}
	}
}

// P1.5: shifts, one behind the other.
func TestP1_5Shifts(t *testing.T) {
	ks := []int{0, 1, 7, 31, 32, 33, 63, 64, 100, 128}
	for _, n := range short() {
		for _, k := range ks {
			up := nat.Shl(n, k)
			if !slices.Equal(nat.Shr(up, k), n) {
				t.Error("there and back", n, k)
			}
			var below []uint32
			for i := range k {
				if nat.Bit(n, i) {
					below = nat.Add(below, nat.Shl(nat.Of(1), i))
				}
			}
			if want, is := nat.Sub(n, below); !is || !slices.Equal(nat.Shl(nat.Shr(n, k), k), want) {
				t.Error("less its bits below", n, k)
			}
			for _, m := range ks {
				if !slices.Equal(nat.Shl(up, m), nat.Shl(n, k+m)) {
					t.Error("by both", n, k, m)
				}
			}
		}
	}
}

// P1.6: the sum of its bits, and how many they are.
func TestP1_6Bits(t *testing.T) {
	for _, n := range append(short(), repeat(api.MaxLong, 0, 1)) {
		var sum []uint32
		for k := range nat.Bits(n) {
			if nat.Bit(n, k) {
				sum = nat.Add(sum, nat.Shl(nat.Of(1), k))
			}
		}
		if !slices.Equal(sum, n) {
			t.Error("the sum", name(n), name(sum))
		}
		k := nat.Bits(n)
		if nat.Cmp(nat.Shl(nat.Of(1), k), n) != 1 {
			t.Error("2^k is greater", name(n), k)
		}
		if k > 0 && nat.Cmp(nat.Shl(nat.Of(1), k-1), n) == 1 {
			t.Error("the least k", name(n), k)
		}
	}
}

// R1: what is handed in stays, also behind its end, and what is told shares no memory with it.
func TestR1Memory(t *testing.T) {
	calls := []func(a, b []uint32) []uint32{
		nat.Add,
		func(a, b []uint32) []uint32 { d, _ := nat.Sub(a, b); return d },
		func(a, b []uint32) []uint32 { return nat.Shl(a, 0) },
		func(a, b []uint32) []uint32 { return nat.Shl(a, 33) },
		func(a, b []uint32) []uint32 { return nat.Shr(a, 0) },
		func(a, b []uint32) []uint32 { return nat.Shr(a, 33) },
		func(a, b []uint32) []uint32 {
			nat.Low(a)
			nat.Cmp(a, b)
			nat.Bits(a)
			nat.Bit(a, 3)
			nat.May(a)
			return nil
		},
	}
	roomy := func(n []uint32) []uint32 {
		whole := slices.Concat(n, []uint32{9, 9, 9})
		return whole[:len(n)]
	}
	stays := func(n, was []uint32) bool {
		return slices.Equal(n, was) && slices.Equal(n[:len(n)+3][len(n):], []uint32{9, 9, 9})
	}
	for i, call := range calls {
		for _, a := range short() {
			for _, b := range short() {
				x, y := roomy(a), roomy(b)
				got := call(x, y)
				for k := range got[:cap(got)] {
					got[:cap(got)][k] ^= full
				}
				if !stays(x, a) || !stays(y, b) {
					t.Fatal("call", i, a, b)
				}
			}
		}
	}
}
