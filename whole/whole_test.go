package whole_test

import (
	"fmt"
	"math"
	"math/big"
	"math/rand"
	"slices"
	"strings"
	"testing"

	"alidade/api"
	"alidade/nat"
	"alidade/whole"
)

const (
	full     = math.MaxUint32
	mostBits = 32 * api.MaxLong
)

// repeat is a natural of so many limbs, all the same but for the last one.
func repeat(long int, limb, last uint32) []uint32 {
	n := slices.Repeat([]uint32{limb}, long)
	n[long-1] = last
	return n
}

// mixed is a natural of so many limbs, of a fixed seed, stretches of 0 and of full ones among them.
func mixed(long int) []uint32 {
	r := rand.New(rand.NewSource(int64(long)))
	n := make([]uint32, 0, long)
	for len(n) < long {
		stretch := slices.Repeat([]uint32{[]uint32{0, full}[r.Intn(2)]}, 1+r.Intn(1+long/3))
		n = append(n, r.Uint32(), r.Uint32())
		n = append(n, stretch...)
	}
	n = n[:long:long]
	n[long-1] |= 1
	return n
}

// number is the whole number that one of math/big is.
func number(x *big.Int) api.Int {
	var n []uint32
	for b := x.Bytes(); len(b) > 0; b = b[:max(len(b)-4, 0)] {
		w := uint32(0)
		for _, c := range b[max(len(b)-4, 0):] {
			w = w<<8 | uint32(c)
		}
		n = append(n, w)
	}
	return api.Int{Neg: x.Sign() < 0, Limbs: n}
}

// value is a whole number as math/big has it.
func value(x api.Int) *big.Int {
	b := make([]byte, 0, 4*len(x.Limbs))
	for _, w := range slices.Backward(x.Limbs) {
		b = append(b, byte(w>>24), byte(w>>16), byte(w>>8), byte(w))
	}
	v := new(big.Int).SetBytes(b)
	if x.Neg {
		v.Neg(v)
	}
	return v
}

// both are naturals, and the same ones below 0.
func both(naturals ...[]uint32) []api.Int {
	var l []api.Int
	for _, n := range naturals {
		l = append(l, api.Int{Limbs: n})
		if len(n) > 0 {
			l = append(l, api.Int{Neg: true, Limbs: n})
		}
	}
	return l
}

// few are short whole numbers: edges of limbs, and of int's.
func few() []api.Int {
	return both(nil, []uint32{}, []uint32{1}, []uint32{2}, []uint32{5}, []uint32{full - 1}, []uint32{full}, []uint32{0, 1}, []uint32{1, 1},
		[]uint32{full, full >> 1}, []uint32{0, 1 << 31}, []uint32{1, 1 << 31}, []uint32{full, full}, []uint32{0, 0, 1}, []uint32{full, 0, 1},
		mixed(2), mixed(3), mixed(5), repeat(4, full, full), repeat(5, 0, 1))
}

// many are longer ones.
func many() []api.Int {
	return both(mixed(12), mixed(40), mixed(41), mixed(100), mixed(300), repeat(100, full, full), repeat(101, 0, 1))
}

// all are both of them.
func all() []api.Int { return slices.Concat(few(), many()) }

// wrong are whole numbers that may not be.
func wrong() []api.Int {
	l := both([]uint32{0}, []uint32{1, 0}, []uint32{0, 0, 0}, []uint32{full, 0}, repeat(100, 3, 0), repeat(api.MaxLong, 1, 0),
		repeat(api.MaxLong+1, 0, 1), repeat(api.MaxLong+1, full, full), repeat(api.MaxLong+1, 2, 0))
	return append(l, api.Int{Neg: true}, api.Int{Neg: true, Limbs: []uint32{}})
}

// name tells a whole number briefly.
func name(x api.Int) string {
	sign := ""
	if x.Neg {
		sign = "-"
	}
	if n := x.Limbs; len(n) > 8 {
		return fmt.Sprintf("%s[%d %d .. %d, %d limbs]", sign, n[0], n[1], n[len(n)-1], len(n))
	}
	return fmt.Sprint(sign, x.Limbs)
}

// brief tells a text briefly.
func brief(s string) string {
	if len(s) > 60 {
		return fmt.Sprintf("%q .. %q, %d bytes", s[:20], s[len(s)-20:], len(s))
	}
	return fmt.Sprintf("%q", s)
}

// same complains unless got may be, and is what is wanted.
func same(t *testing.T, got api.Int, want *big.Int, what ...any) {
	t.Helper()
	equal(t, got, number(want), what...)
}

// equal complains unless two are the same whole number.
func equal(t *testing.T, got, want api.Int, what ...any) {
	t.Helper()
	if got.Neg != want.Neg || !slices.Equal(got.Limbs, want.Limbs) {
		t.Errorf("%s: got %s, want %s", fmt.Sprint(what...), name(got), name(want))
	}
}

// parsed complains unless a text is that of a whole number, and tells it.
func parsed(t *testing.T, s string) api.Int {
	t.Helper()
	x, e := whole.Parse(s)
	if e != api.OK {
		t.Errorf("Parse of %s: %v", brief(s), e)
	}
	return x
}

// refused complains unless Parse tells ErrForm, and nothing else.
func refused(t *testing.T, s string) {
	t.Helper()
	x, e := whole.Parse(s)
	if e != api.ErrForm {
		t.Errorf("Parse of %s: %v", brief(s), e)
	}
	equal(t, x, api.Int{}, "Parse of ", brief(s))
}

func TestExamples(t *testing.T) {
	equal(t, whole.Of(-5), api.Int{Neg: true, Limbs: []uint32{5}}, "Of -5")
	equal(t, whole.Add(whole.Of(5), whole.Of(-7)), whole.Of(-2), "5 and -7")
	equal(t, whole.Mul(whole.Of(-3), whole.Of(4)), whole.Of(-12), "-3 times 4")
	if s := whole.Show(whole.Of(-12)); s != "-12" {
		t.Error("Show of -12:", s)
	}
	for _, s := range []string{"-0", "+1", "01", ""} {
		refused(t, s)
	}
	if n, is := whole.Small(api.Int{Limbs: []uint32{0, 1 << 31}}); is || n != 0 {
		t.Error("Small of 2^63:", n, is)
	}
	if n, is := whole.Small(api.Int{Neg: true, Limbs: []uint32{0, 1 << 31}}); !is || n != math.MinInt64 {
		t.Error("Small of -2^63:", n, is)
	}
}

// P5.1: which whole numbers may be.
func TestP5_1May(t *testing.T) {
	for _, x := range slices.Concat(all(), both(repeat(api.MaxLong, 0, 1), repeat(api.MaxLong, full, full))) {
		if !whole.May(x) {
			t.Error("may be:", name(x))
		}
	}
	for _, x := range wrong() {
		if whole.May(x) {
			t.Error("may not be:", name(x))
		}
	}
}

// edges are int's: the least ones, the greatest ones, and those beside powers of 2.
func edges() []int {
	l := []int{0, math.MinInt, math.MinInt + 1, math.MaxInt, math.MaxInt - 1, 123456789012345678, -123456789012345678}
	for k := range 63 {
		for d := -1; d <= 1; d++ {
			l = append(l, 1<<k+d, -(1<<k + d))
		}
	}
	return l
}

// P5.1, P5.5: numbers, to and fro.
func TestP5_1Of(t *testing.T) {
	for _, n := range edges() {
		x := whole.Of(n)
		same(t, x, big.NewInt(int64(n)), "Of ", n)
		if back, is := whole.Small(x); back != n || !is {
			t.Error("Small of Of", n, back, is)
		}
	}
}

// P5.1: which whole numbers are int's.
func TestP5_1Small(t *testing.T) {
	for _, x := range all() {
		v := value(x)
		n, is := whole.Small(x)
		if is != v.IsInt64() || is && int64(n) != v.Int64() || !is && n != 0 {
			t.Error("Small of", name(x), n, is)
		}
	}
	for _, x := range both([]uint32{0, 1 << 31, 1}, []uint32{7, 0, 1}, repeat(api.MaxLong, full, full)) {
		if n, is := whole.Small(x); is || n != 0 {
			t.Error("Small of", name(x), n, is)
		}
	}
}

// P5.1: naturals with, and without a sign.
func TestP5_1Nat(t *testing.T) {
	for _, n := range [][]uint32{nil, {}, {1}, {full}, {0, 1}, mixed(7), repeat(api.MaxLong, full, full)} {
		equal(t, whole.Nat(n, false), api.Int{Limbs: n}, "Nat")
		equal(t, whole.Nat(n, true), api.Int{Neg: len(n) > 0, Limbs: n}, "Nat, below 0")
	}
	for _, x := range wrong() {
		if !nat.May(x.Limbs) {
			equal(t, whole.Nat(x.Limbs, false), api.Int{}, "Nat ", name(x))
			equal(t, whole.Nat(x.Limbs, true), api.Int{}, "Nat, below 0, ", name(x))
		}
	}
}

// P5.1: signs, turned about, and without them.
func TestP5_1Signs(t *testing.T) {
	for _, x := range slices.Concat(all(), both(repeat(api.MaxLong, full, full))) {
		v := value(x)
		if got := whole.Sign(x); got != v.Sign() {
			t.Error("Sign", name(x), got)
		}
		same(t, whole.Neg(x), new(big.Int).Neg(v), "Neg ", name(x))
		same(t, whole.Abs(x), new(big.Int).Abs(v), "Abs ", name(x))
	}
}

// P5.1, P5.2: each two, against math/big.
func TestP5_2Two(t *testing.T) {
	for _, a := range all() {
		for _, b := range all() {
			v, w := value(a), value(b)
			if got := whole.Cmp(a, b); got != v.Cmp(w) {
				t.Error("Cmp", name(a), name(b), got)
			}
			same(t, whole.Add(a, b), new(big.Int).Add(v, w), "Add ", name(a), name(b))
			same(t, whole.Sub(a, b), new(big.Int).Sub(v, w), "Sub ", name(a), name(b))
			same(t, whole.Mul(a, b), new(big.Int).Mul(v, w), "Mul ", name(a), name(b))
		}
	}
}

// P5.2: small ones, all of them.
func TestP5_2Small(t *testing.T) {
	for a := -40; a <= 40; a++ {
		for b := -40; b <= 40; b++ {
			x, y := whole.Of(a), whole.Of(b)
			equal(t, whole.Add(x, y), whole.Of(a+b), "Add ", a, b)
			equal(t, whole.Sub(x, y), whole.Of(a-b), "Sub ", a, b)
			equal(t, whole.Mul(x, y), whole.Of(a*b), "Mul ", a, b)
			if got := whole.Cmp(x, y); got != whole.Sign(whole.Of(a-b)) {
				t.Error("Cmp", a, b, got)
			}
		}
	}
}

// P5.2: numbers as long as may be, and what would be longer.
func TestP5_2Longest(t *testing.T) {
	most := api.Int{Limbs: repeat(api.MaxLong, full, full)}
	least := api.Int{Neg: true, Limbs: most.Limbs}
	one, zero := whole.Of(1), whole.Of(0)
	less := api.Int{Limbs: repeat(api.MaxLong, full, full)}
	less.Limbs[0]--
	for _, x := range []struct {
		what      string
		got, want api.Int
	}{
		{"most and 1", whole.Add(most, one), zero},
		{"1 and most", whole.Add(one, most), zero},
		{"most less -1", whole.Sub(most, whole.Of(-1)), zero},
		{"least and -1", whole.Add(least, whole.Of(-1)), zero},
		{"least less 1", whole.Sub(least, one), zero},
		{"most and most", whole.Add(most, most), zero},
		{"least less most", whole.Sub(least, most), zero},
		{"most and 0", whole.Add(most, zero), most},
		{"0 less most", whole.Sub(zero, most), least},
		{"least less 0", whole.Sub(least, zero), least},
		{"most and -1", whole.Add(most, whole.Of(-1)), less},
		{"1 and least", whole.Add(one, least), whole.Neg(less)},
		{"most and least", whole.Add(most, least), zero},
		{"most less most", whole.Sub(most, most), zero},
		{"most times 1", whole.Mul(most, one), most},
		{"most times -1", whole.Mul(most, whole.Of(-1)), least},
		{"most times 2", whole.Mul(most, whole.Of(2)), zero},
		{"least times 2", whole.Mul(least, whole.Of(2)), zero},
		{"least times -2", whole.Mul(whole.Of(-2), least), zero},
		{"most times least", whole.Mul(most, least), zero},
		{"least times 0", whole.Mul(least, zero), zero},
		{"half times -2", whole.Mul(api.Int{Limbs: repeat(api.MaxLong, 0, 1<<30)}, whole.Of(-2)), api.Int{Neg: true, Limbs: repeat(api.MaxLong, 0, 1<<31)}},
	} {
		equal(t, x.got, x.want, x.what)
	}
	if whole.Cmp(most, least) != 1 || whole.Cmp(least, most) != -1 || whole.Cmp(least, less) != -1 || whole.Cmp(less, most) != -1 || whole.Cmp(least, whole.Neg(less)) != -1 || whole.Cmp(least, least) != 0 {
		t.Error("Cmp of the longest ones")
	}
}

// P5.2: texts of whole numbers.
func TestP5_2Texts(t *testing.T) {
	for _, x := range slices.Concat(all(), both(mixed(3000))) {
		want := value(x).Text(10)
		if got := whole.Show(x); got != want {
			t.Errorf("Show of %s: %s, want %s", name(x), brief(got), brief(want))
		}
		equal(t, parsed(t, want), x, "Parse of ", brief(want))
	}
	for n := -1200; n <= 1200; n++ {
		want := fmt.Sprint(n)
		if got := whole.Show(whole.Of(n)); got != want {
			t.Errorf("Show of %d: %s", n, brief(got))
		}
		equal(t, parsed(t, want), whole.Of(n), "Parse of ", want)
	}
}

// Errors: what is no whole number's text.
func TestWrongTexts(t *testing.T) {
	for _, s := range []string{
		"", "-", "--", "--1", "---1", "-+1", "+-1", "+1", "+0", "+", "-0", "--0", "-00", "00", "01", "-01", "-007", "0-", "1-", "1-2", "-1-", "-1-2",
		" ", " 1", "1 ", "- 1", " -1", "-1 ", "-1\n", "\t-1", "-1\x00", "\x00-1", "a", "-a", "-1a", "1a", "0x1", "-0x1", "1e3", "-1.0", "-.5", "1/2", "-1/2",
		"1_000", "-1,000", "(- 1)", "\xff", "-\xff", "\u2212" + "1", "\u20131", "-\u0661", "\uff0d1", "~1",
		"-0000000001", "-12345678901234567890-", "-1234567890 1234567890",
	} {
		refused(t, s)
	}
	for c := range 256 {
		if c < '0' || c > '9' {
			refused(t, string([]byte{byte(c)}))
			refused(t, string([]byte{'-', byte(c)}))
			refused(t, string([]byte{'-', '7', byte(c)}))
			if c != '-' {
				refused(t, string([]byte{byte(c), '7'}))
			}
		}
	}
}

// Errors: the longest text, and longer ones, which are no whole number's.
func TestTooLongTexts(t *testing.T) {
	most := value(api.Int{Limbs: repeat(api.MaxLong, full, full)}).Text(10)
	equal(t, parsed(t, "-"+most), api.Int{Neg: true, Limbs: repeat(api.MaxLong, full, full)}, "the longest one")
	above := new(big.Int).Lsh(big.NewInt(1), mostBits).Text(10)
	for _, s := range []string{above, "-" + above, strings.Repeat("9", len(most)), "-" + most + "0", "0" + most, "-0" + most, most + "a", "--" + most} {
		refused(t, s)
	}
}

// P5.1, P5.2: whole numbers that may not be, as each argument, beside all kinds of others.
func TestWrong(t *testing.T) {
	zero := api.Int{}
	for _, x := range wrong() {
		if n, is := whole.Small(x); n != 0 || is {
			t.Error("Small", name(x), n, is)
		}
		if s := whole.Sign(x); s != 0 {
			t.Error("Sign", name(x), s)
		}
		if s := whole.Show(x); s != "" {
			t.Error("Show", name(x), brief(s))
		}
		equal(t, whole.Neg(x), zero, "Neg ", name(x))
		equal(t, whole.Abs(x), zero, "Abs ", name(x))
		for _, y := range slices.Concat(few(), wrong(), both(repeat(api.MaxLong, full, full))) {
			if c, d := whole.Cmp(x, y), whole.Cmp(y, x); c != 0 || d != 0 {
				t.Error("Cmp", name(x), name(y), c, d)
			}
			for _, two := range [][2]api.Int{{x, y}, {y, x}} {
				equal(t, whole.Add(two[0], two[1]), zero, "Add ", name(two[0]), name(two[1]))
				equal(t, whole.Sub(two[0], two[1]), zero, "Sub ", name(two[0]), name(two[1]))
				equal(t, whole.Mul(two[0], two[1]), zero, "Mul ", name(two[0]), name(two[1]))
			}
		}
	}
}

// P5.3: turned about; 0, and 1; a number and its Neg; Sub is Add of Neg.
func TestP5_3Two(t *testing.T) {
	zero, one := whole.Of(0), whole.Of(1)
	for _, a := range all() {
		equal(t, whole.Add(a, zero), a, "and 0: ", name(a))
		equal(t, whole.Mul(a, one), a, "times 1: ", name(a))
		equal(t, whole.Mul(a, zero), zero, "times 0: ", name(a))
		equal(t, whole.Mul(a, whole.Of(-1)), whole.Neg(a), "times -1: ", name(a))
		equal(t, whole.Add(a, whole.Neg(a)), zero, "and its Neg: ", name(a))
		equal(t, whole.Neg(whole.Neg(a)), a, "twice turned about: ", name(a))
		for _, b := range all() {
			equal(t, whole.Add(a, b), whole.Add(b, a), "sums ", name(a), name(b))
			equal(t, whole.Mul(a, b), whole.Mul(b, a), "products ", name(a), name(b))
			equal(t, whole.Sub(a, b), whole.Add(a, whole.Neg(b)), "Sub ", name(a), name(b))
			equal(t, whole.Sub(a, b), whole.Neg(whole.Sub(b, a)), "Sub, turned about ", name(a), name(b))
			equal(t, whole.Add(whole.Sub(a, b), b), a, "there and back ", name(a), name(b))
		}
	}
}

// P5.3: wherever they are begun; a product of a sum.
func TestP5_3Three(t *testing.T) {
	l := append(few(), both(mixed(12), mixed(60))...)
	for _, a := range l {
		for _, b := range l {
			for _, c := range l {
				equal(t, whole.Add(whole.Add(a, b), c), whole.Add(a, whole.Add(b, c)), "sums ", name(a), name(b), name(c))
				equal(t, whole.Mul(whole.Mul(a, b), c), whole.Mul(a, whole.Mul(b, c)), "products ", name(a), name(b), name(c))
				equal(t, whole.Mul(a, whole.Add(b, c)), whole.Add(whole.Mul(a, b), whole.Mul(a, c)), "of a sum ", name(a), name(b), name(c))
			}
		}
	}
}

// P5.4: Cmp is a row, and the difference's Sign.
func TestP5_4Row(t *testing.T) {
	l := slices.SortedFunc(slices.Values(all()), whole.Cmp)
	for i, a := range l {
		for k, b := range l {
			c := whole.Cmp(a, b)
			if c != -whole.Cmp(b, a) || c != whole.Sign(whole.Sub(a, b)) || i < k && c > 0 {
				t.Error("Cmp", name(a), name(b), c)
			}
			if alike := a.Neg == b.Neg && slices.Equal(a.Limbs, b.Limbs); alike != (c == 0) {
				t.Error("the same", name(a), name(b), c)
			}
		}
	}
}

// P5.4: sums, and products with the same one.
func TestP5_4Kept(t *testing.T) {
	l := append(few(), both(mixed(12), mixed(60))...)
	for _, a := range l {
		for _, b := range l {
			for _, c := range l {
				want := whole.Cmp(a, b)
				if got := whole.Cmp(whole.Add(a, c), whole.Add(b, c)); got != want {
					t.Error("sums", name(a), name(b), name(c), got)
				}
				if got := whole.Cmp(whole.Mul(a, c), whole.Mul(b, c)); got != want*whole.Sign(c) {
					t.Error("products", name(a), name(b), name(c), got)
				}
			}
		}
	}
}

// P5.5: there and back.
func TestP5_5ThereAndBack(t *testing.T) {
	for _, x := range slices.Concat(all(), both(mixed(1500))) {
		equal(t, parsed(t, whole.Show(x)), x, "there and back ", name(x))
	}
	for long := 1; long < 300; long += 7 {
		for _, s := range []string{strings.Repeat("1203", long)[:long], strings.Repeat("9", long), "1" + strings.Repeat("0", long)} {
			for _, s := range []string{s, "-" + s} {
				if got := whole.Show(parsed(t, s)); got != s {
					t.Error("back and there", brief(s), brief(got))
				}
			}
		}
	}
	if got := whole.Show(parsed(t, "0")); got != "0" {
		t.Error("0:", got)
	}
}

// P5.6: signs of products, and what has none.
func TestP5_6Signs(t *testing.T) {
	for _, a := range all() {
		abs := whole.Abs(a)
		want := a
		if whole.Sign(a) < 0 {
			want = whole.Neg(a)
		}
		equal(t, abs, want, "Abs ", name(a))
		if whole.Sign(abs) < 0 || whole.Cmp(abs, whole.Of(0)) < 0 {
			t.Error("Abs below 0", name(a), name(abs))
		}
		for _, b := range all() {
			if got := whole.Sign(whole.Mul(a, b)); got != whole.Sign(a)*whole.Sign(b) {
				t.Error("the product's Sign", name(a), name(b), got)
			}
			equal(t, whole.Abs(whole.Mul(a, b)), whole.Mul(abs, whole.Abs(b)), "the product's Abs ", name(a), name(b))
		}
	}
}

// told is a result of one call with one, or two whole numbers.
type told func(a, b api.Int) api.Int

// R1: what is handed in stays, also behind its end; what is told shares no memory with it.
func TestR1Memory(t *testing.T) {
	calls := []told{
		whole.Add, whole.Sub, whole.Mul,
		func(a, b api.Int) api.Int { return whole.Neg(a) },
		func(a, b api.Int) api.Int { return whole.Abs(a) },
		func(a, b api.Int) api.Int { return whole.Nat(a.Limbs, b.Neg) },
		func(a, b api.Int) api.Int {
			whole.May(a)
			whole.Small(a)
			whole.Sign(a)
			whole.Cmp(a, b)
			x, _ := whole.Parse(whole.Show(a))
			return x
		},
	}
	behind := []uint32{9, 9, 9}
	for i, call := range calls {
		for _, a := range all() {
			for _, b := range all() {
				n, m := slices.Concat(a.Limbs, behind), slices.Concat(b.Limbs, behind)
				x := call(api.Int{Neg: a.Neg, Limbs: n[:len(a.Limbs)]}, api.Int{Neg: b.Neg, Limbs: m[:len(b.Limbs)]})
				for k := range x.Limbs[:cap(x.Limbs)] {
					x.Limbs[:cap(x.Limbs)][k] ^= full
				}
				if !slices.Equal(n, slices.Concat(a.Limbs, behind)) || !slices.Equal(m, slices.Concat(b.Limbs, behind)) {
					t.Fatal("call", i, name(a), name(b))
				}
			}
		}
	}
	x := whole.Of(7)
	x.Limbs[0] = 8
	equal(t, whole.Of(7), api.Int{Limbs: []uint32{7}}, "Of 7, twice")
}
