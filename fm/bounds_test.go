package fm_test

import (
	"fmt"
	"math"
	"math/big"
	"math/rand"
	"runtime"
	"slices"
	"testing"

	"alidade/api"
	"alidade/atom"
	"alidade/budget"
	"alidade/fm"
	"alidade/rat"
	"alidade/rows"
	"alidade/whole"
)

// These are written often here.
var (
	zero = api.Int{}
	one  = whole.Of(1)
)

// half and rest are limbs of two powers, whose product has as many as there may be.
const (
	half = 30000
	rest = mostLong + 1 - half
)

// most is the greatest number there is.
func most() api.Int {
	return api.Int{Limbs: slices.Repeat([]uint32{math.MaxUint32}, mostLong)}
}

// less is a number less 1.
func less(n api.Int) api.Int { return whole.Sub(n, one) }

// TestLongestBoth: numbers as long as they may be; of what would be longer by a limb, in whatever number, nothing is made.
func TestLongestBoth(t *testing.T) {
	fits := func(up, low, want api.Atom) {
		t.Helper()
		got, is := fm.Both(from(up, 0), from(low, 1), 0)
		equal(t, is && atom.Same(got.Atom, want), true, "Both, of long numbers")
	}
	not := func(up, low api.Atom) {
		t.Helper()
		got, is := fm.Both(from(up, 0), from(low, 1), 0)
		equal(t, is, false, "Both, of numbers that become too long")
		tells(t, got, row{}, "Both, beside no")
	}
	minus := whole.Of(-1)
	// As Coef of one that both have, that one has, as Add; from above, from below.
	lead := sum(api.Le, zero, power(half), one)
	fits(lead, sum(api.Le, power(rest), minus), sum(api.Le, power(mostLong), zero, one))
	not(lead, sum(api.Le, power(rest+1), minus))
	not(lead, sum(api.Le, whole.Neg(power(rest+1)), minus))
	fits(lead, sum(api.Lt, zero, minus, zero, power(rest)), sum(api.Lt, zero, zero, one, power(mostLong)))
	not(lead, sum(api.Lt, zero, minus, zero, power(rest+1)))
	not(lead, sum(api.Lt, whole.Of(7), minus, one, whole.Of(3), whole.Neg(power(rest+1))))
	fits(sum(api.Le, power(rest), one), sum(api.Lt, one, whole.Neg(power(half)), one), sum(api.Lt, whole.Add(power(mostLong), one), zero, one))
	not(sum(api.Le, power(rest+1), one), sum(api.Lt, one, whole.Neg(power(half)), one))
	not(sum(api.Le, one, one, power(rest+1)), sum(api.Lt, one, whole.Neg(power(half)), one))
	// A sum that is too long, and two that are not, of which one is 0.
	fits(sum(api.Le, less(most()), one, one), sum(api.Le, one, minus, one), sum(api.Le, most(), zero, whole.Of(2)))
	not(sum(api.Le, most(), one, one), sum(api.Le, one, minus, one))
	not(sum(api.Le, whole.Neg(most()), one), sum(api.Le, minus, minus, one))
	not(sum(api.Le, zero, one, most(), one), sum(api.Le, zero, minus, one))
	fits(sum(api.Le, most(), one, most()), sum(api.Le, whole.Neg(most()), minus, whole.Neg(most()), one), sum(api.Le, zero, zero, zero, one))
	fits(sum(api.Lt, whole.Neg(most()), one, one), sum(api.Le, most(), minus, one), sum(api.Lt, zero, zero, whole.Of(2)))
}

// TestLongestDrop: the same of Drop, where what would be too long is refused, and the meter says why; what divides all, or both Coefs, goes ahead of the products.
func TestLongestDrop(t *testing.T) {
	minus := whole.Of(-1)
	fits := func(up, low api.Atom, want ...api.Atom) {
		t.Helper()
		got := drop(of(up, low), 0, widest())
		equal(t, got.e == api.OK && got.truth == atom.Open, true, "Drop: ", got.e)
		equal(t, slices.EqualFunc(rows.Atoms(got.out), want, atom.Same), true, "Drop, of long numbers")
		equal(t, drop(of(up, low), 0, metered(got.spent)).e, api.OK, "with what was spent")
	}
	refused := func(up, low api.Atom) {
		t.Helper()
		for _, l := range []list{of(up, low), of(low, up), of(le(0, 1, 1), up, low), of(low, le(0, 1, 1), up, lt(0))} {
			m := widest()
			got := drop(l, 0, m)
			alike(t, got, result{e: api.ErrBudget, spent: m.Spent()}, "Drop, of numbers that become too long")
			equal(t, got.spent.Rows == 1 && got.spent.Steps == len(l)/3, true, "what was spent ahead of them: ", got.spent)
			equal(t, budget.Text(m.Why()), "no limbs left of 65536", "why")
		}
		m := metered(withSteps(0))
		equal(t, drop(of(up, low), 0, m).e, api.ErrBudget, "with no step for what becomes too long")
		equal(t, budget.Text(m.Why()), "no steps left of 0", "why")
	}
	lead := sum(api.Le, zero, power(half), one)
	fits(lead, sum(api.Le, power(rest), minus), sum(api.Le, power(mostLong), zero, one))
	refused(lead, sum(api.Le, power(rest+1), minus))
	refused(lead, sum(api.Lt, zero, minus, zero, power(rest+1)))
	refused(sum(api.Le, one, one, power(rest+1)), sum(api.Lt, one, whole.Neg(power(half)), one))
	refused(sum(api.Le, most(), one, one), sum(api.Le, one, minus, one))
	// What divides both Coefs, though it divides neither row; and what divides a row.
	fits(lead, sum(api.Le, one, whole.Neg(power(half)), zero, power(mostLong)), sum(api.Le, one, zero, one, power(mostLong)))
	fits(sum(api.Le, zero, power(half), power(half)), sum(api.Lt, power(rest+1), minus), sum(api.Lt, power(rest+1), zero, one))
}

// exactly complains unless Between tells some quotient.
func exactly(t *testing.T, l list, v int, values []api.Rat, num, den api.Int) {
	t.Helper()
	got, is := fm.Between(l, v, values)
	equal(t, is, true, "Between, of long numbers")
	equal(t, whole.Cmp(got.Num, num) == 0 && whole.Cmp(got.Den, den) == 0, true, "Between, of long numbers: limbs ", len(got.Num.Limbs), ", ", len(got.Den.Limbs))
}

// TestLongestBetween: ends whose numbers are longer together than those of two quotients may be (8), up to where what is to be told would be too long itself.
func TestLongestBetween(t *testing.T) {
	minus, two := whole.Of(-1), whole.Of(2)
	p := power(mostLong)
	plus := func(n api.Int, k int) api.Int { return whole.Add(n, whole.Of(k)) }
	least := func(kind uint8, num, den api.Int) api.Atom { return sum(kind, num, whole.Neg(den)) }
	atMost := func(kind uint8, num, den api.Int) api.Atom { return sum(kind, whole.Neg(num), den) }
	// One end, or both, that are whole.
	exactly(t, of(least(api.Le, p, one)), 0, nil, plus(p, 1), one)
	exactly(t, of(atMost(api.Le, whole.Neg(p), one)), 0, nil, whole.Neg(plus(p, 1)), one)
	exactly(t, of(least(api.Lt, less(most()), one)), 0, nil, most(), one)
	exactly(t, of(least(api.Le, p, one), atMost(api.Le, plus(p, 2), one)), 0, nil, plus(p, 1), one)
	exactly(t, of(least(api.Lt, p, one), atMost(api.Lt, plus(p, 1), one)), 0, nil, plus(whole.Mul(p, two), 1), two)
	exactly(t, of(least(api.Le, most(), one), atMost(api.Le, most(), one)), 0, nil, most(), one)
	exactly(t, of(least(api.Le, p, one), least(api.Le, plus(p, -7), one), atMost(api.Lt, most(), one), atMost(api.Le, plus(p, 4), one)), 0, nil, plus(p, 2), one)
	exactly(t, of(atMost(api.Lt, p, one), least(api.Le, whole.Neg(one), p), sum(api.Eq, minus, p)), 0, nil, one, p)
	exactly(t, of(sum(api.Eq, most(), one), sum(api.Le, most(), one)), 0, nil, whole.Neg(most()), one)
	notBetween(t, of(least(api.Le, p, one), atMost(api.Lt, p, one)), 0, nil)
	notBetween(t, of(least(api.Le, most(), one), atMost(api.Le, less(most()), one)), 0, nil)
	notBetween(t, of(sum(api.Eq, most(), one), sum(api.Lt, most(), one)), 0, nil)
	exactly(t, of(sum(api.Le, most(), one, one), least(api.Le, minus, one)), 0, []api.Rat{rat.Int(0), rat.Of(whole.Neg(most()))}, zero, one)
	// Ends whose second number is long.
	exactly(t, of(least(api.Le, one, p)), 0, nil, plus(p, 1), p)
	exactly(t, of(atMost(api.Le, minus, p)), 0, nil, whole.Neg(plus(p, 1)), p)
	exactly(t, of(least(api.Lt, one, p), atMost(api.Le, whole.Of(3), p)), 0, nil, one, whole.Mul(power(mostLong-1), whole.Of(1<<31)))
	// What would be too long is told no more: the end itself, it and 1, half of the sum.
	notBetween(t, of(least(api.Le, most(), one)), 0, nil)
	notBetween(t, of(atMost(api.Le, whole.Neg(most()), one)), 0, nil)
	notBetween(t, of(sum(api.Eq, zero, most(), one)), 0, []api.Rat{rat.Int(0), {Num: one, Den: two}})
	notBetween(t, of(least(api.Lt, one, most()), atMost(api.Lt, two, most())), 0, nil)
}

// mixed is a number of so many limbs, of a fixed seed.
func mixed(r *rand.Rand, limbs int) api.Int {
	n := each(limbs, func(int) uint32 { return r.Uint32() })
	n[limbs-1] |= 1
	return api.Int{Limbs: n}
}

// TestLongEnds: ends with two long numbers, also such as are near to one another, against math/big.
func TestLongEnds(t *testing.T) {
	r := rand.New(rand.NewSource(250))
	for _, limbs := range by(1, 2, 5, 40, 900, 5000) {
		num, den := mixed(r, limbs), mixed(r, limbs)
		next := whole.Add(num, one)
		for k, l := range []list{
			of(sum(api.Le, num, whole.Neg(den)), sum(api.Lt, next, whole.Neg(den))),
			of(sum(api.Le, whole.Neg(num), den), sum(api.Lt, whole.Neg(next), den), sum(api.Le, num, whole.Neg(den))),
			of(sum(api.Lt, num, whole.Neg(den)), sum(api.Lt, whole.Neg(next), den)),
			of(sum(api.Lt, whole.Neg(num), den), sum(api.Lt, next, whole.Neg(den))),
			of(sum(api.Lt, whole.Neg(num), den, one), sum(api.Le, zero, whole.Neg(den), whole.Neg(one), one)),
		} {
			values := []api.Rat{{}, rat.Of(whole.Sub(den, num)), {Num: one, Den: num}}
			want, is := modelBetween(l, 0, values)
			if !is {
				notBetween(t, l, 0, values)
				continue
			}
			equal(t, k == 3, false, "an end above the other one")
			exactly(t, l, 0, values, number(want.Num()), number(want.Denom()))
		}
	}
	// Their products are too long, what is told is not.
	num, den := mixed(r, 40000), mixed(r, 40000)
	next := whole.Add(num, one)
	two := whole.Of(2)
	den.Limbs[0] |= 1
	exactly(t, of(sum(api.Lt, num, whole.Neg(den)), sum(api.Lt, whole.Neg(next), den)), 0, nil, whole.Add(num, next), whole.Mul(two, den))
}

// TestCompare: quotients of numbers of whatever length, about the edges of pieces among them, also such as are near to one another, and that are the same.
func TestCompare(t *testing.T) {
	r := rand.New(rand.NewSource(251))
	held := func(p, q api.Rat) {
		t.Helper()
		want := new(big.Int).Mul(value(p.Num), value(q.Den)).Cmp(new(big.Int).Mul(value(q.Num), value(p.Den)))
		equal(t, fm.Compare(p, q), want, "Compare: limbs ", len(p.Num.Limbs), ", ", len(p.Den.Limbs), ", ", len(q.Num.Limbs), ", ", len(q.Den.Limbs))
		equal(t, fm.Compare(q, p), -want, "Compare, turned about")
		p.Num, q.Num = whole.Neg(p.Num), whole.Neg(q.Num)
		equal(t, fm.Compare(p, q), -want, "Compare, both turned")
		equal(t, fm.Compare(p, p), 0, "Compare of one and itself")
		if p.Num.Neg && q.Num.Neg {
			q.Num = whole.Neg(q.Num)
			equal(t, fm.Compare(p, q), -1, "below 0, and above")
		}
	}
	// Whether they are in lowest terms makes no difference here.
	quotient := func(limbs ...int) api.Rat { return api.Rat{Num: mixed(r, limbs[0]), Den: mixed(r, limbs[1])} }
	for range 3000 {
		p, q := quotient(1+r.Intn(3), 1+r.Intn(3)), quotient(1+r.Intn(3), 1+r.Intn(3))
		held(p, q)
		held(p, api.Rat{Num: whole.Of(r.Intn(3) - 1), Den: q.Den})
		// Many times p, but for the last limb.
		held(p, api.Rat{Num: whole.Add(whole.Mul(p.Num, q.Num), whole.Of(r.Intn(3)-1)), Den: whole.Mul(p.Den, q.Num)})
	}
	const piece = mostLong / 4
	for _, l := range [][]int{{1, piece}, {piece, 2}, {piece - 1, piece + 1}, {2*piece + 1, piece}, {mostLong, 1}, {3, mostLong - 1}} {
		p, q := quotient(l...), quotient(l...)
		held(p, q)
		q = p
		q.Num = whole.Add(q.Num, one)
		held(p, q)
		q = p
		q.Den = less(q.Den)
		held(p, q)
	}
	// Numbers of which the limbs in the midst are 0, or as great as can be.
	full, gap := most(), whole.Add(power(mostLong), one)
	held(api.Rat{Num: less(full), Den: full}, api.Rat{Num: less(less(full)), Den: less(full)})
	for _, p := range []api.Rat{{Num: full, Den: gap}, {Num: gap, Den: full}, {Num: gap, Den: power(mostLong)}} {
		held(p, api.Rat{Num: one, Den: one})
	}
	held(api.Rat{Num: gap, Den: power(mostLong)}, api.Rat{Num: power(mostLong), Den: less(power(mostLong))})
}

// TestManyPairs: more pairs than there may be rows, and as many as there may be; nothing of them is made ahead of being allowed.
func TestManyPairs(t *testing.T) {
	const many = 1 << 17
	l := each(2*many, func(k int) row { return from(le(k, 0, 1-k%2*2, 1, 1), k%600) })
	taken := func(call func()) int {
		var ahead, behind runtime.MemStats
		runtime.ReadMemStats(&ahead)
		call()
		runtime.ReadMemStats(&behind)
		return int(behind.TotalAlloc - ahead.TotalAlloc)
	}
	for _, c := range []struct{ rows, ups, lows int }{{mostRows, many, many}, {mostRows, 1, mostRows + 1}, {mostRows, 1025, 1024}, {0, 1, 1}, {many - 1, 1, many}, {many, many, 2}, {mostRows - 1, 1024, 1024}} {
		ups := slices.Repeat(l[:1], c.ups)
		some := append(ups, slices.Repeat(l[1:2], c.lows)...)
		if c.ups == many && c.lows == many {
			some = l
		}
		m := metered(withRows(c.rows))
		var got result
		bytes := taken(func() { got = drop(some, 0, m) })
		alike(t, got, result{e: api.ErrBudget}, "more pairs than rows: ", c)
		equal(t, budget.Text(m.Why()), fmt.Sprint("no rows left of ", c.rows), "why")
		if bytes > 1000*len(some)+100000 {
			t.Errorf("%d bytes are taken up for %v", bytes, c)
		}
	}
	// One row more than there may be, none of which has the variable.
	stay := each(mostRows+1, func(k int) row { return from(le(k, 1, 1), k%64) })
	m := widest()
	alike(t, drop(stay, 0, m), result{e: api.ErrBudget, spent: api.Budget{Steps: mostRows + 1, Limbs: 1}}, "more rows than there may be")
	equal(t, budget.Text(m.Why()), "no rows left of 1048576", "why")
	// Just as many as there may be: all that they make is true.
	trues := of(each(2048, func(k int) api.Atom { return le(-k, 0, 1-k%2*2) })...)
	got := drop(trues, 0, widest())
	alike(t, got, result{spent: api.Budget{Rows: mostRows}}, "as many pairs as there may be")
	// Many that are the same, and many of which no two are.
	alike(t, drop(slices.Concat(slices.Repeat(list{from(le(0, 0, 1, 1, 1), 0)}, 300), slices.Repeat(list{from(lt(0, 0, -1), 1)}, 300)), 0, widest()), result{out: list{from(lt(0, 1, 1), 0, 1)}, spent: api.Budget{Steps: 90000, Rows: 90000, Limbs: 1}}, "many that are the same")
	apart := drop(l[:600], 0, widest())
	equal(t, len(apart.out), 90000, "many of which no two are the same")
	equal(t, apart.spent, api.Budget{Steps: 90000, Rows: 90000, Limbs: 1}, "what was spent for many")
	for k, o := range apart.out {
		up, low := 2*(k/300), 2*(k%300)+1
		want := from(le(up+low, 1, 2), up, low)
		if up+low&1 == 0 {
			want = from(le((up+low)/2, 1, 1), up, low)
		}
		if !rows.Same(o, want) {
			t.Fatal("in their row: ", k, o)
		}
	}
}

// S7: no more steps are done than the budget has, nor any behind a number that has more limbs. What is done is told by the memory that is taken up on the way.
func TestFewStepsDone(t *testing.T) {
	const many = 60
	l := of(each(2*many, func(k int) api.Atom {
		return le(k, slices.Concat([]int{0, 1 - k%2*2}, slices.Concat(each(200, func(v int) []int { return []int{v + 1, 2*(v%7+1) + k%3} })...))...)
	})...)
	taken := func(b api.Budget, want api.Errno) int {
		m := metered(b)
		var ahead, behind runtime.MemStats
		runtime.ReadMemStats(&ahead)
		got := drop(l, 0, m)
		runtime.ReadMemStats(&behind)
		equal(t, got.e, want, "with ", b)
		return int(behind.TotalAlloc - ahead.TotalAlloc)
	}
	none := taken(withSteps(0), api.ErrBudget)
	all := taken(withSteps(many*many), api.OK)
	if none > all/20 {
		t.Errorf("without a step %d bytes are taken up, with enough of them %d", none, all)
	}
	for _, steps := range by(1, 10, 100) {
		if some := taken(withSteps(steps), api.ErrBudget) - none; some > all/(many*many)*(steps+2)*2 {
			t.Errorf("with %d steps %d bytes more are taken up, with enough of them %d", steps, some, all)
		}
	}
	short := budget.Widest()
	short.Limbs = 0
	if some := taken(short, api.ErrBudget); some > 2*none {
		t.Errorf("without a limb %d bytes are taken up, without a step %d", some, none)
	}
}

// spareList is a list that has something behind its end, and a look at whether it is as it was.
func spareList[T any](l []T, behind T, looks *[]func() bool) []T {
	long := append(slices.Clone(l), behind, behind)
	kept := fmt.Sprint(long)
	*looks = append(*looks, func() bool { return fmt.Sprint(long) == kept })
	return long[:len(l)]
}

// spareInt, spareRow, spareRat are what they are handed, all lists being such.
func spareInt(n api.Int, looks *[]func() bool) api.Int {
	return api.Int{Neg: n.Neg, Limbs: spareList(n.Limbs, 9, looks)}
}
func spareRow(r row, looks *[]func() bool) row {
	a := r.Atom
	a.Mod, a.Term.Add = spareInt(a.Mod, looks), spareInt(a.Term.Add, looks)
	l := slices.Clone(a.Term.Parts)
	for k, p := range l {
		l[k].Coef = spareInt(p.Coef, looks)
	}
	a.Term.Parts = spareList(l, api.Part{Var: 9}, looks)
	return row{Atom: a, From: spareList(r.From, 9, looks)}
}
func spareRat(x api.Rat, looks *[]func() bool) api.Rat {
	return api.Rat{Num: spareInt(x.Num, looks), Den: spareInt(x.Den, looks)}
}

// alone tells whether lists share nothing: each place of them, to their room's end, holds what was written there, when all are written.
func alone[T any](l [][]T, write func(x *T, k int), holds func(x T, k int) bool) bool {
	count := 0
	for _, m := range l {
		m = m[:cap(m)]
		for k := range m {
			write(&m[k], count)
			count++
		}
	}
	count = 0
	for _, m := range l {
		m = m[:cap(m)]
		for k := range m {
			if !holds(m[k], count) {
				return false
			}
			count++
		}
	}
	return true
}

// apart tells whether no two lists of some rows and numbers share memory. It writes all over it.
func apart(l list, ints ...api.Int) bool {
	var limbs [][]uint32
	var parts [][]api.Part
	var sets [][]uint64
	for _, n := range ints {
		limbs = append(limbs, n.Limbs)
	}
	for _, r := range l {
		a := r.Atom
		limbs = append(limbs, a.Term.Add.Limbs, a.Mod.Limbs)
		parts = append(parts, a.Term.Parts)
		sets = append(sets, r.From)
		for _, p := range a.Term.Parts {
			limbs = append(limbs, p.Coef.Limbs)
		}
	}
	is := alone(limbs, func(x *uint32, k int) { *x = uint32(k) }, func(x uint32, k int) bool { return x == uint32(k) })
	is = is && alone(parts, func(x *api.Part, k int) { x.Var = k }, func(x api.Part, k int) bool { return x.Var == k })
	is = is && alone(sets, func(x *uint64, k int) { *x = uint64(k) }, func(x uint64, k int) bool { return x == uint64(k) })
	clear(l[:cap(l)])
	return is
}

// R1: what is handed in stays, also behind its end, with an error and without; what is told shares no memory with it, nor within itself; it is told again.
func TestR1Stays(t *testing.T) {
	check := func(l list, values []api.Rat, v int) {
		t.Helper()
		var looks []func() bool
		l = spareList(each(len(l), func(k int) row { return spareRow(l[k], &looks) }), from(le(9), 9), &looks)
		values = spareList(each(len(values), func(k int) api.Rat { return spareRat(values[k], &looks) }), rat.Int(9), &looks)
		told := func(call func() (string, list, []api.Int), what string) {
			t.Helper()
			was, out, ints := call()
			equal(t, apart(out, ints...), true, "no memory is shared: ", what, " by ", v, " of ", brief{l})
			again, _, _ := call()
			equal(t, again, was, what, ", told again, by ", v, " of ", brief{l})
		}
		for _, b := range []api.Budget{budget.Widest(), withSteps(5), withRows(2)} {
			told(func() (string, list, []api.Int) {
				got := drop(l, v, metered(b))
				return fmt.Sprint(got), got.out, nil
			}, "Drop")
		}
		told(func() (string, list, []api.Int) {
			x, is := fm.Between(l, v, values)
			return fmt.Sprint(x, is), nil, []api.Int{x.Num, x.Den}
		}, "Between")
		for k, up := range l {
			low := l[len(l)-1-k]
			told(func() (string, list, []api.Int) {
				r, is := fm.Both(up, low, v)
				return fmt.Sprint(r, is, fm.Side(up, v)), list{r}, nil
			}, "Both")
		}
		for k, look := range looks {
			if !look() {
				t.Fatal("something that was handed in has changed:", k, brief{l})
			}
		}
	}
	r := rand.New(rand.NewSource(252))
	for k := range 2500 {
		values, v := madeValues(r), r.Intn(4)
		l := madeRows(r)
		switch k % 4 {
		case 0:
			l = planted(r, with(values, v, in(r.Intn(9), 2)))
		case 1:
			l = dropped(l, v)
		case 2:
			l = append(dropped(l, v), pick(r, wrongRows()))
			values = append(values, api.Rat{}, api.Rat{Num: whole.Of(3), Den: whole.Of(6)})
		}
		check(l, values, v)
	}
	// Canonical rows, and one row, and its numbers, in many places.
	n := long(3)
	p, q := from(le(7, 0, 2, 1, 1), 1, 70), from(sum(api.Lt, n, whole.Neg(n), n), 0)
	check(list{p, q, p, q, from(sum(api.Eq, n, zero, n, n), 5), p}, []api.Rat{{Num: n, Den: n}, rat.Of(n), rat.Of(n)}, 0)
	check(list{p, q}, nil, 0)
	check(list{from(sum(api.Eq, n, n), 1)}, nil, 0)
	check(list{from(sum(api.Le, n, n, one), 1)}, []api.Rat{rat.Int(5), {Num: n, Den: power(4)}}, 0)
	check(list{from(sum(api.Le, n, whole.Neg(n), one), 1), from(sum(api.Le, whole.Neg(n), n, whole.Neg(one)), 2)}, []api.Rat{rat.Int(5), {Num: n, Den: power(4)}}, 0)
}

// R1: whatever is in rows, in variables and values: each call ends, and tells what it tells of what may be, or an error alone.
func TestR1Wild(t *testing.T) {
	r := rand.New(rand.NewSource(253))
	var wild list
	for _, a := range slices.Concat(few(), few(), few(), few(), few(), settled()) {
		wild = append(wild, row{Atom: a, From: madeSet(r)})
	}
	wild = slices.Concat(wild, wild, wild, wrongRows())
	count := map[api.Errno]int{}
	for range 12000 {
		l := each(r.Intn(7), func(int) row { return pick(r, wild) })
		b := api.Budget{Steps: r.Intn(3) * r.Intn(12), Rows: r.Intn(9), Limbs: r.Intn(3)}
		v := pick(r, append(notVars(), 0, 0, 0, 0, 1, 1, 1, 2, 2, 3, lastVar))
		wrong := slices.ContainsFunc(l, func(s row) bool { return !rows.May(s) })
		equations := slices.ContainsFunc(l, func(s row) bool { return fm.Side(s, v) != 0 && s.Atom.Kind == api.Eq })
		got := drop(l, v, metered(b))
		count[got.e]++
		switch {
		case wrong || equations:
			alike(t, got, result{e: api.ErrForm}, "wild: ", brief{l})
		case got.e != api.OK:
			alike(t, got, result{e: api.ErrBudget, spent: got.spent}, "wild: ", brief{l})
		default:
			alike(t, got, modelDrop(l, v), "wild: ", brief{l})
		}
		refuses(t, api.ErrNil, l, v, nil, "no meter, wild")
		values := each(r.Intn(5), func(int) api.Rat {
			return pick(r, []api.Rat{{}, in(1, 2), rat.Int(-3), {Num: one, Den: zero}, {Num: whole.Of(2), Den: whole.Of(2)}})
		})
		x, is := fm.Between(l, v, values)
		isNo := wrong || v < 0 || v >= mostVars
		if !isNo {
			_, isModel := modelBetween(l, min(v, 9), values)
			isNo = !isModel
		}
		equal(t, is, !isNo, "wild: Between by ", v, " of ", brief{l})
		if is {
			equal(t, rat.May(x), true, "wild: Between, in lowest terms")
		} else {
			tells(t, x, api.Rat{}, "wild: Between, beside no")
		}
	}
	if count[api.OK] < 1000 || count[api.ErrForm] < 1000 || count[api.ErrBudget] < 1000 {
		t.Error("only", count)
	}
}
