package dec_test

import (
	"fmt"
	"math"
	"math/big"
	"math/rand"
	"slices"
	"strings"
	"testing"

	"alidade/api"
	"alidade/dec"
	"alidade/div"
	"alidade/mul"
	"alidade/nat"
)

const (
	full     = math.MaxUint32
	mostBits = 32 * api.MaxLong
)

// repeat is a natural of so many limbs, all the same but for the last one.
func repeat(long int, limb, last uint32) []uint32 {
	n := slices.Repeat([]uint32{limb}, long)
	n[long-1] = last
	return n
}

// mixed is a natural of so many limbs, of a fixed seed, stretches of 0 and of full ones among them.
func mixed(long int) []uint32 {
	r := rand.New(rand.NewSource(int64(long)))
	n := make([]uint32, 0, long)
	for len(n) < long {
		stretch := slices.Repeat([]uint32{[]uint32{0, full}[r.Intn(2)]}, 1+r.Intn(1+long/3))
		n = append(n, r.Uint32(), r.Uint32())
		n = append(n, stretch...)
	}
	n = n[:long:long]
	n[long-1] |= 1
	return n
}

// limbs is the natural that a number of math/big is.
func limbs(x *big.Int) []uint32 {
	var n []uint32
	for b := x.Bytes(); len(b) > 0; b = b[:max(len(b)-4, 0)] {
		w := uint32(0)
		for _, c := range b[max(len(b)-4, 0):] {
			w = w<<8 | uint32(c)
		}
		n = append(n, w)
	}
	return n
}

// value is a natural as math/big has it.
func value(n []uint32) *big.Int {
	b := make([]byte, 0, 4*len(n))
	for _, w := range slices.Backward(n) {
		b = append(b, byte(w>>24), byte(w>>16), byte(w>>8), byte(w))
	}
	return new(big.Int).SetBytes(b)
}

// ten is 1 with k 0s behind it, as math/big has it.
func ten(k int) *big.Int {
	return new(big.Int).Exp(big.NewInt(10), big.NewInt(int64(k)), nil)
}

// longestText is the text of the greatest natural that may be.
func longestText() string {
	return value(repeat(api.MaxLong, full, full)).Text(10)
}

// few are short naturals: edges of limbs, of pieces of nine digits, and of digits.
func few() [][]uint32 {
	l := [][]uint32{
		nil, {}, {1}, {5}, {7}, {full}, {0, 1}, {1, 1}, {full, 1}, {full, full}, {0, 0, 1}, {0, 0, 0, 1 << 31},
		mixed(2), mixed(3), mixed(4), mixed(7), mixed(12), mixed(20), repeat(15, full, full), repeat(16, 0, 1),
	}
	for _, k := range []int{1, 2, 8, 9, 10, 17, 18, 19, 20, 26, 27, 28, 35, 36, 37, 45, 71, 72, 73} {
		for _, d := range []int64{-1, 0, 1} {
			l = append(l, limbs(new(big.Int).Add(ten(k), big.NewInt(d))))
		}
	}
	return l
}

// many are longer ones.
func many() [][]uint32 {
	var l [][]uint32
	for _, long := range []int{33, 64, 65, 127, 200, 600} {
		l = append(l, mixed(long), repeat(long, full, full), repeat(long, 0, 1))
	}
	for _, k := range []int{143, 144, 145, 287, 288, 289, 576, 999, 1152} {
		l = append(l, limbs(ten(k)), limbs(new(big.Int).Sub(ten(k), big.NewInt(1))))
	}
	return l
}

// wrong are naturals that may not be.
func wrong() [][]uint32 {
	return [][]uint32{
		{0}, {1, 0}, {0, 0, 0}, {full, 0}, repeat(100, 3, 0), repeat(api.MaxLong, 1, 0),
		repeat(api.MaxLong+1, 0, 1), repeat(api.MaxLong+1, full, full), repeat(api.MaxLong+1, 2, 0),
	}
}

// name tells a natural briefly.
func name(n []uint32) string {
	if len(n) > 8 {
		return fmt.Sprintf("[%d %d .. %d, %d limbs]", n[0], n[1], n[len(n)-1], len(n))
	}
	return fmt.Sprint(n)
}

// brief tells a text briefly.
func brief(s string) string {
	if len(s) > 60 {
		return fmt.Sprintf("%q .. %q, %d bytes", s[:20], s[len(s)-20:], len(s))
	}
	return fmt.Sprintf("%q", s)
}

// same complains unless got may be, and is what is wanted.
func same(t *testing.T, got []uint32, want *big.Int, what ...any) {
	t.Helper()
	if !nat.May(got) || value(got).Cmp(want) != 0 {
		t.Errorf("%s: got %s, want a number of %d bits", fmt.Sprint(what...), name(got), want.BitLen())
	}
}

// equal complains unless two are the same natural.
func equal(t *testing.T, got, want []uint32, what ...any) {
	t.Helper()
	if !slices.Equal(got, want) {
		t.Errorf("%s: got %s, want %s", fmt.Sprint(what...), name(got), name(want))
	}
}

// parsed complains unless a text is that of a natural, and tells it.
func parsed(t *testing.T, s string) []uint32 {
	t.Helper()
	n, e := dec.Parse(s)
	if e != api.OK {
		t.Errorf("Parse of %s: %v", brief(s), e)
	}
	return n
}

// refused complains unless Parse tells an error, and nothing else.
func refused(t *testing.T, s string, want api.Errno) {
	t.Helper()
	if n, e := dec.Parse(s); len(n) != 0 || e != want {
		t.Errorf("Parse of %s: %s %v, want %v", brief(s), name(n), e, want)
	}
}

// check holds a natural's text against math/big.
func check(t *testing.T, n []uint32) {
	t.Helper()
	want := value(n).Text(10)
	if got := dec.Show(n); got != want {
		t.Errorf("Show of %s: %s, want %s", name(n), brief(got), brief(want))
	}
	if got := dec.Digits(n); got != len(want) {
		t.Errorf("Digits of %s: %d, want %d", name(n), got, len(want))
	}
	equal(t, parsed(t, want), n, "Parse of ", brief(want))
}

func TestExamples(t *testing.T) {
	if s := dec.Show([]uint32{0, 0, 1}); s != "18446744073709551616" {
		t.Error("Show of 2^64:", s)
	}
	if k := dec.Digits([]uint32{0, 0, 1}); k != 20 {
		t.Error("Digits of 2^64:", k)
	}
	for _, s := range []string{"00", "", "1a", "-1"} {
		refused(t, s, api.ErrForm)
	}
	equal(t, dec.Ten(9), nat.Of(1000000000), "Ten of 9")
	high, low := dec.Split(nat.Of(12345), 2)
	equal(t, high, nat.Of(123), "Split of 12345, 2: high")
	equal(t, low, nat.Of(45), "Split of 12345, 2: low")
	high, low = dec.Split(nat.Of(12345), 9)
	equal(t, high, nil, "Split of 12345, 9: high")
	equal(t, low, nat.Of(12345), "Split of 12345, 9: low")
}

// P4.1: texts of naturals of all lengths.
func TestP4_1Texts(t *testing.T) {
	if s := dec.Show(nil); s != "0" || dec.Digits(nil) != 1 {
		t.Error("0:", s, dec.Digits(nil))
	}
	for n := range uint64(3000) {
		check(t, nat.Of(n))
	}
	for _, n := range slices.Concat(few(), many(), [][]uint32{mixed(3000), repeat(6821, full, full)}) {
		check(t, n)
	}
	for k := range 1300 {
		check(t, limbs(ten(k)))
		check(t, limbs(new(big.Int).Sub(ten(k), big.NewInt(1))))
		check(t, nat.Shl(nat.Of(1), k))
		less, _ := nat.Sub(nat.Shl(nat.Of(1), k), nat.Of(1))
		check(t, less)
	}
}

// P4.1: texts of all lengths, with digits of a fixed seed, and with holes of 0s.
func TestP4_1Parse(t *testing.T) {
	r := rand.New(rand.NewSource(4))
	for long := 1; long < 700; long++ {
		digits := make([]byte, long)
		for k := range digits {
			digits[k] = '0' + byte(r.Intn(10))
		}
		digits[0] = '1' + byte(r.Intn(9))
		hole := strings.Repeat("0", long-1)
		for _, s := range []string{string(digits), "9" + hole, hole + "7", strings.Repeat("9", long)} {
			if s[0] == '0' {
				refused(t, s, api.ErrForm)
				continue
			}
			want, _ := new(big.Int).SetString(s, 10)
			same(t, parsed(t, s), want, "Parse of ", brief(s))
		}
	}
}

// P4.1, P5: a numeral that fills a whole source is told as it is.
func TestP4_1Source(t *testing.T) {
	s := strings.Repeat("9081726354", api.MaxSource/10)
	n := parsed(t, s)
	if got := dec.Show(n); got != s || dec.Digits(n) != len(s) {
		t.Error("a long numeral:", brief(got), dec.Digits(n))
	}
}

// P4.1: the longest naturals.
func TestP4_1Longest(t *testing.T) {
	check(t, repeat(api.MaxLong, full, full))
	check(t, limbs(ten(631305)))
	for _, n := range [][]uint32{mixed(api.MaxLong), repeat(api.MaxLong, 0, 1), repeat(api.MaxLong-1, full, full), nat.Shl(nat.Of(1), mostBits-1)} {
		if got, want := dec.Digits(n), len(value(n).Text(10)); got != want {
			t.Errorf("Digits of %s: %d, want %d", name(n), got, want)
		}
	}
}

// Errors: what has digits alone, and too many of them, or is just greater than the longest natural.
func TestTooLong(t *testing.T) {
	longest := longestText()
	equal(t, parsed(t, longest), repeat(api.MaxLong, full, full), "the longest one")
	above := new(big.Int).Lsh(big.NewInt(1), mostBits)
	for _, s := range []string{
		above.Text(10),
		new(big.Int).Add(above, big.NewInt(7)).Text(10),
		strings.Repeat("9", len(longest)),
		"1" + strings.Repeat("0", len(longest)),
		longest + "0",
		strings.Repeat("123456789", 200000),
		"5" + strings.Repeat("0", 9<<17),
		"5" + strings.Repeat("0", 9<<17) + "7",
	} {
		refused(t, s, api.ErrTooLarge)
	}
}

// Errors: what is no natural's text, however long it is.
func TestWrongTexts(t *testing.T) {
	long := strings.Repeat("1", 800000)
	for _, s := range []string{
		"", " ", "0 ", " 0", "1 ", " 1", "1 2", "\t1", "1\n", "1\x00", "\x00", "+1", "-1", "-0", "+0", "-", "+", "a", "1a", "a1", "0x1", "1e3", "1_000",
		"1.0", "1.", ".5", "1,000", "/", ":", "1/", "1:", "/1", ":1", "123456789/", "12345678/9", "123456789:123456789",
		"00", "01", "007", "0000000000", "000000000", "0123456789", "\xff", "1\xff", "\u0661", "1\u0662", "\uff11", "²",
		"0" + longestText(), longestText() + "a", long + "a", long + " ", "0" + long, "-" + long, "a" + long,
	} {
		refused(t, s, api.ErrForm)
	}
	for c := range 256 {
		if c < '0' || c > '9' {
			refused(t, string([]byte{byte(c)}), api.ErrForm)
			refused(t, "12345678901234567890"+string([]byte{byte(c)})+"1", api.ErrForm)
		}
	}
}

// P4.1, P4.2: naturals that may not be.
func TestWrong(t *testing.T) {
	for _, n := range wrong() {
		if s := dec.Show(n); s != "" {
			t.Error("Show", name(n), brief(s))
		}
		if k := dec.Digits(n); k != 0 {
			t.Error("Digits", name(n), k)
		}
		for _, k := range []int{math.MinInt, -1, 0, 1, 9, 700000, math.MaxInt} {
			if high, low := dec.Split(n, k); len(high) != 0 || len(low) != 0 {
				t.Error("Split", name(n), k, name(high), name(low))
			}
		}
	}
}

// P4.2: 1 with 0s behind it, as many as may be, and more.
func TestP4_2Ten(t *testing.T) {
	for k := range 700 {
		same(t, dec.Ten(k), ten(k), "Ten of ", k)
	}
	for _, k := range []int{5000, 9 << 12, 300001, 631304, 631305} {
		same(t, dec.Ten(k), ten(k), "Ten of ", k)
	}
	for _, k := range []int{-1, -2, -9, math.MinInt, 631306, 631307, 640000, 1 << 20, 1 << 40, math.MaxInt - 1, math.MaxInt} {
		equal(t, dec.Ten(k), nil, "Ten of ", k)
	}
}

// P4.2: parted at all places, and behind all digits.
func TestP4_2Split(t *testing.T) {
	for _, n := range slices.Concat(few(), many()) {
		x := value(n)
		for _, k := range []int{0, 1, 2, 3, 8, 9, 10, 17, 18, 19, 27, 36, 50, 100, 1000, 5000} {
			high, low := dec.Split(n, k)
			wantHigh, wantLow := new(big.Int).QuoRem(x, ten(k), new(big.Int))
			same(t, high, wantHigh, "Split ", name(n), k, " high")
			same(t, low, wantLow, "Split ", name(n), k, " low")
		}
		for _, k := range []int{631306, 1 << 20, math.MaxInt} {
			high, low := dec.Split(n, k)
			equal(t, high, nil, "Split ", name(n), k, " high")
			equal(t, low, n, "Split ", name(n), k, " low")
		}
		for _, k := range []int{-1, -9, math.MinInt} {
			high, low := dec.Split(n, k)
			equal(t, high, nil, "Split ", name(n), k, " high")
			equal(t, low, nil, "Split ", name(n), k, " low")
		}
	}
}

// P4.2: the longest natural, parted by powers that may be, and that may not.
func TestP4_2LongestSplit(t *testing.T) {
	n := repeat(api.MaxLong, full, full)
	for _, k := range []int{0, 1, 9, 631304, 631305} {
		high, low := dec.Split(n, k)
		wantHigh, wantLow := new(big.Int).QuoRem(value(n), ten(k), new(big.Int))
		same(t, high, wantHigh, "Split ", k, " high")
		same(t, low, wantLow, "Split ", k, " low")
	}
	high, low := dec.Split(n, 631306)
	equal(t, high, nil, "all digits: high")
	equal(t, low, n, "all digits: low")
}

// P4.3: what is shown is parsed as it was; what is parsed, shown, is the text.
func TestP4_3ThereAndBack(t *testing.T) {
	for _, n := range slices.Concat(few(), many()) {
		equal(t, parsed(t, dec.Show(n)), n, "there and back ", name(n))
	}
	texts := []string{"0", "1", "9", "10", "999999999", "1000000000", "1000000001", "999999999999999999", "1000000000000000000", "100000000000000000000000000000000001"}
	for long := 1; long < 400; long += 7 {
		texts = append(texts, strings.Repeat("1203", long)[:long], strings.Repeat("9", long), "1"+strings.Repeat("0", long))
	}
	for _, s := range texts {
		if got := dec.Show(parsed(t, s)); got != s {
			t.Error("back and there", brief(s), brief(got))
		}
	}
}

// P4.4: two naturals stand as their texts do.
func TestP4_4AsTexts(t *testing.T) {
	l := slices.Concat(few(), many())
	for _, a := range l {
		for _, b := range l {
			s, u := dec.Show(a), dec.Show(b)
			want := strings.Compare(s, u)
			if len(s) < len(u) {
				want = -1
			} else if len(s) > len(u) {
				want = 1
			}
			if nat.Cmp(a, b) != want {
				t.Error("two stand otherwise", name(a), name(b), brief(s), brief(u))
			}
		}
	}
}

// P4.5: the last digit, the digits' sum, and the sum with signs to and fro, are remainders.
func TestP4_5Digits(t *testing.T) {
	for _, n := range slices.Concat(few(), many()) {
		sum, turns, sign := 0, 0, 1
		text := dec.Show(n)
		if dec.Digits(n) != len(text) {
			t.Error("Digits", name(n), dec.Digits(n))
		}
		for _, c := range slices.Backward([]byte(text)) {
			sum += int(c - '0')
			turns += sign * int(c-'0')
			sign = -sign
		}
		last := int(text[len(text)-1] - '0')
		for _, x := range []struct{ by, of int }{{10, last}, {9, sum}, {11, turns}} {
			_, r, e := div.Small(n, uint32(x.by))
			if want := (x.of%x.by + x.by) % x.by; e != api.OK || int(r) != want {
				t.Error("the remainder by", x.by, name(n), r, want)
			}
		}
	}
}

// P4.6: what is parted, put together, is the natural, and its text.
func TestP4_6Parted(t *testing.T) {
	for _, n := range slices.Concat(few(), many()) {
		text := dec.Show(n)
		for _, k := range []int{0, 1, 5, 8, 9, 10, 18, 30, 99, 300} {
			high, low := dec.Split(n, k)
			equal(t, nat.Add(mul.Mul(high, dec.Ten(k)), low), n, "put together ", name(n), k)
			if nat.Cmp(low, dec.Ten(k)) >= 0 {
				t.Error("the low one has more digits", name(n), k)
			}
			got := dec.Show(low)
			if len(high) != 0 {
				ahead := dec.Show(high)
				if k > 0 {
					got = strings.Repeat("0", k-len(got)) + got
				} else {
					got = ""
				}
				got = ahead + got
			}
			if got != text {
				t.Error("its text", name(n), k, brief(got), brief(text))
			}
			if len(n) != 0 && dec.Show(mul.Mul(n, dec.Ten(k))) != text+strings.Repeat("0", k) {
				t.Error("times Ten", name(n), k)
			}
		}
	}
}

// R1: what is handed in stays, also behind its end; what is told shares no memory with it, nor one result with another.
func TestR1Memory(t *testing.T) {
	calls := []func(n []uint32) [][]uint32{
		func(n []uint32) [][]uint32 { high, low := dec.Split(n, 0); return [][]uint32{high, low} },
		func(n []uint32) [][]uint32 { high, low := dec.Split(n, 7); return [][]uint32{high, low} },
		func(n []uint32) [][]uint32 { high, low := dec.Split(n, 5000); return [][]uint32{high, low} },
		func(n []uint32) [][]uint32 { high, low := dec.Split(n, 1<<20); return [][]uint32{high, low} },
		func(n []uint32) [][]uint32 { dec.Show(n); dec.Digits(n); return nil },
		func(n []uint32) [][]uint32 {
			m, _ := dec.Parse(dec.Show(n))
			return [][]uint32{m, dec.Ten(9), dec.Ten(9)}
		},
	}
	behind := []uint32{9, 9, 9}
	for i, call := range calls {
		for _, n := range slices.Concat(few(), many()) {
			x := slices.Concat(n, behind)
			told := call(x[:len(n)])
			was := make([][]uint32, len(told))
			for k, m := range told {
				was[k] = slices.Clone(m)
			}
			for k, m := range told {
				if !slices.Equal(m, was[k]) {
					t.Fatal("two results share memory: call", i, name(n))
				}
				for j := range m[:cap(m)] {
					m[:cap(m)][j] ^= full
				}
			}
			if !slices.Equal(x, slices.Concat(n, behind)) {
				t.Fatal("call", i, name(n))
			}
		}
	}
}
