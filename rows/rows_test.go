package rows_test

import (
	"fmt"
	"math"
	"math/rand"
	"runtime"
	"slices"
	"testing"

	"alidade/api"
	"alidade/atom"
	"alidade/budget"
	"alidade/rat"
	"alidade/rows"
	"alidade/whole"
)

const (
	mostVars = 1 << 20
	mostRows = 1 << 20
	mostLong = 1 << 16
	lastVar  = mostVars - 1
	full     = math.MaxUint64
	last     = 1 << 63
)

// These are written often.
type (
	set  = rows.Set
	row  = rows.Row
	list = []rows.Row
)

// linear is the term of a number, and of variables, each with its Coef behind it; they have to rise.
func linear(add int, l ...int) api.Term {
	t := api.Term{Add: whole.Of(add)}
	for ; len(l) > 0; l = l[2:] {
		t.Parts = append(t.Parts, api.Part{Var: l[0], Coef: whole.Of(l[1])})
	}
	return t
}

// le, lt, eq, div are atoms of linear terms.
func le(add int, l ...int) api.Atom { return api.Atom{Kind: api.Le, Term: linear(add, l...)} }
func lt(add int, l ...int) api.Atom { return api.Atom{Kind: api.Lt, Term: linear(add, l...)} }
func eq(add int, l ...int) api.Atom { return api.Atom{Kind: api.Eq, Term: linear(add, l...)} }
func div(mod, add int, l ...int) api.Atom {
	return api.Atom{Kind: api.Div, Term: linear(add, l...), Mod: whole.Of(mod)}
}

// x says of a variable that it is 0, or less; twice says so of it twice; zero that it is 0.
func x(v int) api.Atom     { return le(0, v, 1) }
func twice(v int) api.Atom { return le(0, v, 2) }
func zero(v int) api.Atom  { return eq(0, v, 1) }

// of is the set of some numbers, bit by bit.
func of(numbers ...int) set {
	var s set
	for _, k := range numbers {
		for len(s) <= k/64 {
			s = append(s, 0)
		}
		s[k/64] |= 1 << (k % 64)
	}
	return s
}

// from is a row: an atom, and from where it comes.
func from(a api.Atom, numbers ...int) row { return row{Atom: a, From: of(numbers...)} }

// each is what a call makes of so many numbers, from 0 on.
func each[T any](many int, call func(k int) T) []T {
	var l []T
	for k := range many {
		l = append(l, call(k))
	}
	return l
}

// up is a number itself.
func up(k int) int { return k }

// long is a whole number of so many limbs.
func long(limbs int) api.Int { return api.Int{Limbs: slices.Repeat([]uint32{1}, limbs)} }

// brief is something whose text is made only when it is told: how it begins and ends.
type brief struct{ of any }

func (b brief) String() string {
	s := fmt.Sprint(b.of)
	if len(s) > 400 {
		s = s[:200] + " .. " + s[len(s)-200:]
	}
	return s
}

// equal complains unless something is what is wanted.
func equal[T comparable](t *testing.T, got, want T, what ...any) {
	t.Helper()
	if got != want {
		t.Errorf("%s: got %v, want %v", fmt.Sprint(what...), got, want)
	}
}

// tells complains unless something is what is wanted, just so; none and nothing are the same.
func tells[T set | list | row | []int | []api.Atom](t *testing.T, got, want T, what ...any) {
	t.Helper()
	if fmt.Sprint(got) != fmt.Sprint(want) {
		t.Errorf("%s: got %s, want %s", fmt.Sprint(what...), brief{got}, brief{want})
	}
}

// pick is one of a list.
func pick[T any](r *rand.Rand, l []T) T { return l[r.Intn(len(l))] }

// widest is a meter of the widest budget.
func widest() *budget.Meter { return metered(budget.Widest()) }

// metered is a meter of a budget.
func metered(b api.Budget) *budget.Meter {
	m, e := budget.New(b)
	if e != api.OK {
		panic("no budget")
	}
	return m
}

// withSteps, withRows are the widest budget, but for one part.
func withSteps(n int) api.Budget {
	b := budget.Widest()
	b.Steps = n
	return b
}
func withRows(n int) api.Budget {
	b := budget.Widest()
	b.Rows = n
	return b
}

// usedUp are meters of which a part was used up before.
func usedUp() []*budget.Meter {
	steps, rows, limbs, deep := metered(withSteps(0)), metered(withRows(3)), widest(), widest()
	steps.Pay(api.Atom{})
	rows.Rows(4)
	limbs.Pay(api.Atom{Term: api.Term{Add: long(mostLong + 1)}})
	deep.Deep(api.MaxSource + 1)
	return []*budget.Meter{steps, rows, limbs, deep}
}

// What follows are models: a set's numbers are asked bit by bit, rows are held against each other one by one.

// numbers are those of a set.
func numbers(s set) []int {
	var l []int
	for at, w := range s {
		for bit := range 64 {
			if w>>bit&1 == 1 {
				l = append(l, 64*at+bit)
			}
		}
	}
	return l
}

// isSet tells whether a set may be.
func isSet(s set) bool { return len(s) == 0 || s[len(s)-1] != 0 }

// hasAll tells whether a list has all numbers of another one.
func hasAll(l, other []int) bool {
	return !slices.ContainsFunc(other, func(k int) bool { return !slices.Contains(l, k) })
}

// inBoth are the numbers of a list that another one has.
func inBoth(l, other []int) []int {
	return slices.DeleteFunc(slices.Clone(l), func(k int) bool { return !slices.Contains(other, k) })
}

// inEither are the numbers of two lists.
func inEither(l, other []int) []int {
	both := slices.Sorted(slices.Values(slices.Concat(l, other)))
	return slices.Compact(both)
}

// sets are sets with all kinds of words, some with 0s behind.
func sets() []set {
	l := []set{nil, {}, {0}, {0, 0}, slices.Repeat(set{0}, 9), {1}, {1, 0}, {1, 0, 0}, {2}, {3}, {last}, {last, 0}, {last, 1}, {0, 1}, {0, 1, 0}, {1, 2}, {1, 2, 0}, {0, last}, {full}, {full, 0}, {full - 1}, {full >> 1}, {full &^ (1 << 30)}, {0, full}, {full, full}, {full, full, 0, 0}, {full - 1, full}, {full, full >> 1}, {full, full &^ 4, full}, {full, full, full}, {full, full, full >> 1}, {full, 0, full}, {1, 0, 1}, {1, 0, 0, 1}, {0, 0, 1}, {0, 0, 0, 1}, {1, 0, 0, 1, 0, 0}, {5, 0, 0, 0, 9}, {0x5555555555555555, 0xaaaaaaaaaaaaaaaa}, {0xaaaaaaaaaaaaaaaa, 0x5555555555555555}}
	return append(l, of(mostRows-1), append(of(0, mostRows-1), 0))
}

// madeSet is a set of few words, or none, of few or many numbers, some with 0s behind.
func madeSet(r *rand.Rand) set {
	s := each(r.Intn(5), func(int) uint64 {
		return pick(r, []uint64{0, 1, last, full, r.Uint64(), r.Uint64() & r.Uint64() & r.Uint64(), 1 << r.Intn(64), 1 << r.Intn(3)})
	})
	for range r.Intn(3) * r.Intn(2) {
		s = append(s, 0)
	}
	return s
}

// TestExamples are those of the chapter.
func TestExamples(t *testing.T) {
	tells(t, rows.From([]int{0, 65}), set{1, 2}, "From of 0, 65")
	l, e := rows.Of([]api.Atom{twice(0), lt(0, 1, 1)})
	equal(t, e, api.OK, "Of")
	tells(t, l, list{from(twice(0), 0), from(lt(0, 1, 1), 1)}, "Of of 2x <= 0, y < 0")
	becomes(t, list{from(twice(0), 0), from(x(0), 0), from(x(0), 1)}, from(x(0), 0), from(x(0), 1))
	becomes(t, list{from(lt(-1), 0)})
	isFalse(t, list{from(lt(0), 0)})
}

// P22.1: the set of numbers, whatever row they stand in, but of those alone that are 0 to MaxRows less 1.
func TestP22_1From(t *testing.T) {
	for k, c := range []struct {
		l    []int
		want set
	}{
		{nil, nil}, {[]int{}, nil},
		{[]int{0}, set{1}}, {[]int{1}, set{2}}, {[]int{5}, set{32}}, {[]int{62}, set{last >> 1}}, {[]int{63}, set{last}}, {[]int{64}, set{0, 1}}, {[]int{127}, set{0, last}}, {[]int{128}, set{0, 0, 1}},
		{[]int{0, 63, 64, 127, 128}, set{1 | last, 1 | last, 1}}, {[]int{63, 64}, set{last, 1}}, {[]int{0, 128}, set{1, 0, 1}}, {[]int{3, 300}, set{8, 0, 0, 0, 1 << 44}},
		// Numbers that do not rise, and that stand there twice.
		{[]int{64, 0}, set{1, 1}}, {[]int{128, 127, 64, 63, 0}, set{1 | last, 1 | last, 1}}, {[]int{2, 200, 1, 70}, set{6, 1 << 6, 0, 1 << 8}}, {[]int{7, 7}, set{128}}, {[]int{65, 0, 65, 0, 65}, set{1, 2}}, {[]int{9, 100, 9, 8, 100}, set{1<<9 | 1<<8, 1 << 36}},
		// Numbers that are left out.
		{[]int{-1}, nil}, {[]int{-64}, nil}, {[]int{-1, -2, -63, -64, -65}, nil}, {[]int{math.MinInt}, nil}, {[]int{math.MaxInt}, nil}, {[]int{mostRows}, nil}, {[]int{mostRows + 1, mostRows + 64}, nil}, {[]int{1 << 40, 1<<32 + 5}, nil},
		{[]int{-1, 0, mostRows}, set{1}}, {[]int{mostRows, 65, math.MinInt, 0, math.MaxInt, -64}, set{1, 2}}, {[]int{math.MinInt + 1, 3, math.MaxInt - 1}, set{8}}, {[]int{math.MinInt + 64, 64 - mostRows, 1}, set{2}},
	} {
		tells(t, rows.From(c.l), c.want, "From, case ", k, ", of ", brief{c.l})
	}
	ends := rows.From([]int{mostRows - 1})
	equal(t, len(ends) == mostRows/64 && ends[len(ends)-1] == last, true, "From of MaxRows less 1: its words")
	tells(t, ends, of(mostRows-1), "From of MaxRows less 1")
	tells(t, rows.From([]int{mostRows, mostRows - 1, 0, mostRows - 64, mostRows - 65}), of(0, mostRows-65, mostRows-64, mostRows-1), "From of those around MaxRows")
	tells(t, rows.From(each(mostRows+200, func(k int) int { return k - 100 })), slices.Repeat(set{full}, mostRows/64), "From of all numbers that may be, and more")
	r := rand.New(rand.NewSource(221))
	for range 5000 {
		most := pick(r, []int{1, 3, 64, 65, 130, 1000, mostRows})
		l := each(r.Intn(20), func(int) int { return r.Intn(most) })
		tells(t, rows.From(l), of(l...), "From of ", l)
		tells(t, rows.From(append(l, -1-r.Intn(200), mostRows+r.Intn(200))), of(l...), "From, with more, of ", l)
	}
}

// P22.1: whether a set may be, its numbers, how many, and whether a number is in it: also below 0, and beyond its words.
func TestP22_1Asked(t *testing.T) {
	check := func(s set) {
		t.Helper()
		l := numbers(s)
		equal(t, s.May(), isSet(s), "May of ", brief{s})
		tells(t, s.List(), l, "List of ", brief{s})
		equal(t, s.Len(), len(l), "Len of ", brief{s})
		for _, k := range append(l, 0, 1, 63, 64, 65, 127, 128, 64*len(s)-1, 64*len(s), 64*len(s)+1, mostRows-1, mostRows) {
			for _, k := range []int{k - 64, k - 1, k, k + 1, k + 64, -k, -k - 1, math.MaxInt - k, math.MinInt + k, k + 1<<32} {
				_, has := slices.BinarySearch(l, k)
				equal(t, s.Has(k), has, "Has ", k, " of ", brief{s})
			}
		}
	}
	for _, s := range sets() {
		check(s)
	}
	r := rand.New(rand.NewSource(222))
	for range 3000 {
		check(madeSet(r))
	}
	// Where the words are not those of From: numbers beyond MaxRows less 1.
	check(of(mostRows))
	check(append(of(3, 2*mostRows), 0))
}

// TestP22_1ByHand: what is asked of sets, where it is known by hand.
func TestP22_1ByHand(t *testing.T) {
	for _, c := range []struct {
		s    set
		may  bool
		want []int
	}{
		{nil, true, nil}, {set{}, true, nil}, {set{0}, false, nil}, {set{0, 0, 0}, false, nil}, {set{1}, true, []int{0}}, {set{1, 0}, false, []int{0}}, {set{1, 0, 0, 0}, false, []int{0}}, {set{0, 1}, true, []int{64}}, {set{1, 0, 1}, true, []int{0, 128}}, {set{1, 0, 1, 0}, false, []int{0, 128}}, {set{last}, true, []int{63}}, {set{last | 1, last | 1}, true, []int{0, 63, 64, 127}}, {set{6, 0, 0, 9, 0}, false, []int{1, 2, 192, 195}}, {set{full}, true, each(64, up)},
	} {
		equal(t, c.s.May(), c.may, "May of ", c.s)
		tells(t, c.s.List(), c.want, "List of ", c.s)
		equal(t, c.s.Len(), len(c.want), "Len of ", c.s)
		for k := -130; k < 64*len(c.s)+130; k++ {
			equal(t, c.s.Has(k), slices.Contains(c.want, k), "Has ", k, " of ", c.s)
		}
		equal(t, c.s.Has(math.MinInt) || c.s.Has(math.MaxInt) || c.s.Has(math.MinInt+63) || c.s.Has(-64), false, "Has of ", c.s, ", far out")
	}
}

// heldTogether complains unless two sets are held against each other as their numbers are.
func heldTogether(t *testing.T, s, u set) {
	t.Helper()
	l, m := numbers(s), numbers(u)
	or := s.Or(u)
	tells(t, or, of(inEither(l, m)...), "Or of ", brief{s}, " and ", brief{u})
	equal(t, or.May(), true, "May of Or of ", brief{s}, " and ", brief{u})
	equal(t, s.Within(u), hasAll(m, l), brief{s}, " Within ", brief{u})
	equal(t, s.Same(u), slices.Equal(l, m), brief{s}, " the Same as ", brief{u})
}

// P22.1: two sets, each with each, turned about, of like and unlike lengths, with 0s behind; and what P22.3 says of them.
func TestP22_1Together(t *testing.T) {
	for _, s := range sets() {
		for _, u := range sets() {
			if len(s) < 100 && len(u) < 100 {
				heldTogether(t, s, u)
				goByLaws(t, s, u, set{4, 0, 2})
			}
		}
	}
	r := rand.New(rand.NewSource(223))
	for range 10000 {
		s, u := madeSet(r), madeSet(r)
		if r.Intn(3) == 0 {
			u = s.Or(u)
		}
		heldTogether(t, s, u)
		heldTogether(t, u, s)
		goByLaws(t, s, u, madeSet(r))
	}
	big, more := of(0, 777, mostRows-1), of(5, 777, mostRows-1)
	for _, s := range []set{big, more, append(slices.Clone(big), 0, 0), of(mostRows - 1), of(777), {0, 0}, nil} {
		heldTogether(t, s, big)
		heldTogether(t, big, s)
		heldTogether(t, s, more)
	}
}

// TestP22_1Within: a set that is in another one, but for one number: its first, its last, one in the midst.
func TestP22_1Within(t *testing.T) {
	r := rand.New(rand.NewSource(224))
	for range 2000 {
		l := slices.Compact(slices.Sorted(slices.Values(each(1+r.Intn(12), func(int) int { return r.Intn(400) }))))
		s := of(l...)
		all := of(append(each(r.Intn(6), func(int) int { return r.Intn(400) }), l...)...)
		within := func(s, u set, want bool) {
			t.Helper()
			for range 3 {
				equal(t, s.Within(u), want, s, " Within ", u)
				s, u = append(slices.Clone(s), 0), append(slices.Clone(u), 0, 0)
			}
		}
		within(s, all, true)
		within(s, s, true)
		within(nil, s, true)
		within(set{0, 0}, nil, true)
		within(s, nil, false)
		for _, k := range []int{0, len(l) / 2, len(l) - 1} {
			less := slices.Clone(all)
			less[l[k]/64] &^= 1 << (l[k] % 64)
			within(s, less, false)
			equal(t, s.Same(less), false, s, " the Same as ", less)
			equal(t, less.Same(s), false, less, " the Same as ", s)
			own := of(slices.Delete(slices.Clone(l), k, k+1)...)
			within(own, s, true)
			within(s, own, false)
			equal(t, own.Same(s) || s.Same(own), false, own, " the Same as ", s)
			equal(t, s.Same(own.Or(of(l[k]))), true, s, " without ", l[k], ", and that again")
		}
	}
}

// goByLaws complains unless three sets go by P22.3.
func goByLaws(t *testing.T, s, u, v set) {
	t.Helper()
	or := s.Or(u)
	tells(t, or, u.Or(s), "Or turned about: ", s, u)
	tells(t, or.Or(v), s.Or(u.Or(v)), "Or begun elsewhere: ", s, u, v)
	equal(t, s.Within(u), or.Same(u), "Within, and Or: ", s, u)
	equal(t, s.Same(u), s.Within(u) && u.Within(s), "Same, and Within: ", s, u)
	equal(t, rows.From(s.List()).Same(s), true, "its List, From: ", s)
	equal(t, s.Len()+u.Len(), or.Len()+len(inBoth(numbers(s), numbers(u))), "Len: ", s, u)
	equal(t, s.Within(or) && u.Within(or), true, "both are within Or: ", s, u)
	equal(t, s.Or(s).Same(s) && s.Or(nil).Same(s) && s.Or(set{0}).Same(s) && set(nil).Or(s).Same(s), true, "Or with itself, and with none: ", s)
	if s.May() {
		tells(t, rows.From(s.List()), s, "its List, From, word by word: ", s)
	}
}

// wrongAtoms are atoms that may not be, for each reason.
func wrongAtoms() []api.Atom {
	good := linear(0, 0, 1)
	wrongInts := []api.Int{{Neg: true}, {Limbs: []uint32{0}}, {Limbs: []uint32{5, 0}}, {Neg: true, Limbs: []uint32{0}}, long(mostLong + 1)}
	l := []api.Atom{
		{Kind: 4, Term: good}, {Kind: 255}, {Kind: api.Div, Term: good}, {Kind: api.Div, Term: good, Mod: whole.Of(-2)}, {Term: good, Mod: whole.Of(1)}, {Kind: api.Eq, Mod: whole.Of(2)}, {Kind: api.Lt, Term: good, Mod: whole.Of(-1)},
		{Term: linear(0, -1, 1)}, {Term: linear(0, mostVars, 1)}, {Term: linear(0, 1, 1, 0, 1)}, {Term: linear(0, 1, 1, 1, 1)}, {Term: linear(0, 0, 0)}, {Kind: api.Lt, Term: linear(1, 3, 0)}, {Kind: api.Div, Term: linear(1, 3, 0), Mod: whole.Of(2)},
	}
	for _, n := range wrongInts {
		l = append(l, api.Atom{Term: api.Term{Add: n}}, api.Atom{Kind: api.Lt, Term: api.Term{Parts: []api.Part{{Var: 0, Coef: n}}}}, api.Atom{Kind: api.Div, Term: good, Mod: n}, api.Atom{Kind: api.Eq, Term: good, Mod: n})
	}
	return l
}

// divs are atoms that may be over the whole numbers alone.
func divs() []api.Atom {
	return []api.Atom{div(2, 0, 0, 1), div(1, 0), div(1, 5, 0, 1), div(3, 1), div(7, 0, lastVar, 1)}
}

// wrongRows are rows that may not be, for each reason.
func wrongRows() list {
	var l list
	for _, a := range slices.Concat(wrongAtoms(), divs()) {
		l = append(l, from(a, 0), row{Atom: a})
	}
	for _, s := range []set{nil, {}, {0}, {1, 0}, {0, 0}, {1, 2, 0}, {full, 0, 0}, slices.Repeat(set{0}, 50)} {
		l = append(l, row{x(0), s}, row{lt(1), s}, row{le(-1), s}, row{div(2, 0, 0, 1), s})
	}
	return append(l, row{})
}

// goodRows are rows that may be, no two the same.
func goodRows() list {
	return list{
		from(x(0), 0), from(x(0), 1), from(x(0), 64), from(x(0), 0, 64), from(x(0), 0, 128), from(x(0), mostRows-1), from(x(1), 0), from(x(lastVar), 0), from(twice(0), 0), from(twice(0), 0, 1), from(lt(0, 0, 1), 0), from(zero(0), 0), from(zero(0), 1), from(eq(0, 0, -1), 0), from(le(0, 0, -1), 0), from(le(1, 0, 1), 0), from(le(-1, 0, 1), 0), from(le(0, 0, 1, 1, 1), 0),
		from(le(0), 0), from(le(1), 0), from(lt(0), 0), from(eq(0), 3), from(eq(4), 3), from(lt(-1), 0), {le(0), set{full, full}}, {x(0), set{full, full}}, {x(0), set{0, full}}, {api.Atom{Term: api.Term{Parts: []api.Part{{Var: 0, Coef: long(mostLong)}}, Add: long(2)}}, set{1}},
	}
}

// P22.2: whether a row may be, and whether two are the same.
func TestP22_2MayAndSame(t *testing.T) {
	wrong, good := wrongRows(), goodRows()
	for k, r := range wrong {
		equal(t, rows.May(r), false, "May of wrong row ", k)
		equal(t, rows.Same(r, r), false, "Same of wrong row ", k, " and itself")
		for n, g := range good {
			equal(t, rows.Same(r, g) || rows.Same(g, r), false, "Same of wrong row ", k, ", and good row ", n)
		}
		for n, other := range wrong {
			equal(t, rows.Same(r, other), false, "Same of wrong rows ", k, ", ", n)
		}
	}
	for k, r := range good {
		equal(t, rows.May(r), true, "May of good row ", k)
		for n := range good {
			again := goodRows()[n]
			equal(t, rows.Same(r, again), k == n, "Same of good rows ", k, ", ", n)
		}
		// One that has 0s behind its set may not be.
		r.From = append(slices.Clone(r.From), 0)
		equal(t, rows.May(r) || rows.Same(r, good[k]) || rows.Same(good[k], r), false, "good row ", k, ", with 0s behind its set")
	}
}

// P22.2: first rows, each from its own place, and their atoms, also such as are not canonical, are the same, or are true, or false.
func TestP22_2OfAndAtoms(t *testing.T) {
	check := func(l []api.Atom) {
		t.Helper()
		out, e := rows.Of(l)
		equal(t, e, api.OK, "Of: ", brief{l})
		tells(t, out, each(len(l), func(k int) row { return from(l[k], k) }), "Of of ", brief{l})
		equal(t, slices.ContainsFunc(out, func(r row) bool { return !rows.May(r) }), false, "May of Of of ", brief{l})
		tells(t, rows.Atoms(out), l, "Atoms of Of of ", brief{l})
		for k, r := range out {
			tells(t, r.From.List(), []int{k}, "from where: ", brief{l})
		}
	}
	check(nil)
	check([]api.Atom{})
	check([]api.Atom{x(0)})
	check([]api.Atom{twice(0), lt(0, 1, 1)})
	check([]api.Atom{x(0), x(0), le(0), le(1), lt(0), eq(3), eq(0, 5, -7), x(0)})
	check(each(200, func(k int) api.Atom { return le(k%3, k, 2-k%5*k) })[3:])
	for _, many := range []int{63, 64, 65, 128, 129, 5000, 1 << 15} {
		check(each(many, x))
	}
	tells(t, rows.Atoms(nil), nil, "Atoms of none")
	tells(t, rows.Atoms(list{}), nil, "Atoms of none")
	tells(t, rows.Atoms(list{from(twice(3), 5, 70)}), []api.Atom{twice(3)}, "Atoms of one")
	all := slices.Concat(goodRows(), wrongRows(), goodRows())
	tells(t, rows.Atoms(all), each(len(all), func(k int) api.Atom { return all[k].Atom }), "Atoms of rows, some of which may not be")
}

// TestErrorsOf holds each row of Of's table against the rows behind it, with what may not be first, in the midst, and last.
func TestErrorsOf(t *testing.T) {
	most := each(mostRows+1, func(k int) api.Atom { return x(k % mostVars) })
	refuses := func(want api.Errno, l []api.Atom, what ...any) {
		t.Helper()
		out, e := rows.Of(l)
		equal(t, e, want, append([]any{"Of: "}, what...)...)
		equal(t, len(out), 0, append([]any{"Of, beside the error: "}, what...)...)
	}
	refuses(api.ErrTooLarge, most, "one more than there may be")
	refuses(api.ErrTooLarge, append(most, most...), "many more than there may be")
	refuses(api.ErrTooLarge, make([]api.Atom, mostRows+1), "one more than there may be, all true")
	equal(t, rows.Refused(most[:mostRows]), api.OK, "just as many as there may be")
	with := func(a api.Atom, l []api.Atom, test func(l []api.Atom, at int)) {
		for _, at := range []int{0, len(l) / 2, len(l) - 1} {
			was := l[at]
			l[at] = a
			test(l, at)
			l[at] = was
		}
	}
	three, few := []api.Atom{x(0), le(0), x(2)}, each(9, x)
	for k, a := range divs() {
		for _, l := range [][]api.Atom{three, few, {x(0)}, most[:mostRows], most} {
			with(a, l, func(l []api.Atom, at int) { refuses(api.ErrSort, l, "Div ", k, " at ", at, " of ", len(l)) })
		}
		with(a, three, func(l []api.Atom, at int) {
			for n, wrong := range wrongAtoms() {
				refuses(api.ErrForm, append([]api.Atom{wrong}, l...), "Div ", k, " at ", at, " behind wrong atom ", n)
				refuses(api.ErrForm, append(slices.Clone(l), wrong), "Div ", k, " at ", at, " ahead of wrong atom ", n)
			}
		})
	}
	for k, a := range wrongAtoms() {
		for _, l := range [][]api.Atom{three, few, {x(0)}} {
			with(a, l, func(l []api.Atom, at int) { refuses(api.ErrForm, l, "wrong atom ", k, " at ", at, " of ", len(l)) })
		}
		if k%5 == 0 {
			with(a, most, func(l []api.Atom, at int) { refuses(api.ErrForm, l, "wrong atom ", k, " at ", at, " of too many") })
		}
	}
}

// modelPut is what rows come to, put together, and what is spent for it.
func modelPut(l list) (out list, truth uint8, spent api.Budget) {
	for _, r := range l {
		c, is, _ := atom.Canon(api.Real, r.Atom)
		if is == atom.No {
			truth = atom.No
		}
		if is != atom.Open {
			continue
		}
		m := widest()
		m.Pay(c)
		spent.Steps++
		spent.Limbs = max(spent.Limbs, m.Spent().Limbs)
		isSame := func(o row) bool {
			return fmt.Sprint(o.Atom) == fmt.Sprint(c) && slices.Equal(numbers(o.From), numbers(r.From))
		}
		if !slices.ContainsFunc(out, isSame) {
			out = append(out, row{c, r.From})
		}
	}
	if truth == atom.No {
		return nil, atom.No, spent
	}
	spent.Rows = len(out)
	return out, atom.Open, spent
}

// put is what rows come to, and what was spent for it, with the widest budget.
func put(t *testing.T, l list) (list, uint8, api.Budget) {
	t.Helper()
	m := widest()
	out, truth, e := rows.Put(l, m)
	if e != api.OK {
		t.Errorf("refused: %v: %s", e, brief{l})
	}
	return out, truth, m.Spent()
}

// becomes complains unless rows come to some rows.
func becomes(t *testing.T, l list, want ...row) {
	t.Helper()
	out, truth, _ := put(t, l)
	equal(t, truth, atom.Open, "Put: truth of ", brief{l})
	tells(t, out, want, "Put of ", brief{l})
}

// isFalse complains unless rows are false.
func isFalse(t *testing.T, l list) {
	t.Helper()
	out, truth, _ := put(t, l)
	equal(t, truth, atom.No, "Put: truth of ", brief{l})
	equal(t, len(out), 0, "Put: rows beside what is false, of ", brief{l})
}

// spends complains unless rows cost so many steps, and so many stay.
func spends(t *testing.T, l list, steps, many int) {
	t.Helper()
	_, _, spent := put(t, l)
	equal(t, spent.Steps, steps, "Put: steps, for ", brief{l})
	equal(t, spent.Rows, many, "Put: rows, for ", brief{l})
}

// refuses complains unless Put tells an error, and nothing beside it.
func refuses(t *testing.T, want api.Errno, l list, m *budget.Meter, what ...any) {
	t.Helper()
	out, truth, e := rows.Put(l, m)
	equal(t, e, want, append([]any{"Put: "}, what...)...)
	equal(t, len(out) == 0 && truth == 0, true, append([]any{"Put, beside the error: "}, what...)...)
}

// goesByModel complains unless rows come to what the model has it, for what the model spends.
func goesByModel(t *testing.T, l list) (list, uint8, api.Budget) {
	t.Helper()
	want, wantTruth, wantSpent := modelPut(l)
	out, truth, spent := put(t, l)
	tells(t, out, want, "Put of ", brief{l})
	equal(t, truth, wantTruth, "Put: truth of ", brief{l})
	equal(t, spent, wantSpent, "Put: what was spent for ", brief{l})
	return out, truth, spent
}

// P22.2: each row made canonical, and such as are the same as one ahead, wherever that stands.
func TestP22_2Put(t *testing.T) {
	becomes(t, nil)
	becomes(t, list{})
	becomes(t, list{from(x(0), 0)}, from(x(0), 0))
	becomes(t, list{from(x(0), mostRows-1)}, from(x(0), mostRows-1))
	// Canonical forms of each kind.
	becomes(t, list{from(le(4, 0, 2), 3)}, from(le(2, 0, 1), 3))
	becomes(t, list{from(le(3, 0, 2), 3)}, from(le(3, 0, 2), 3))
	becomes(t, list{from(lt(-6, 0, 4, 7, -10), 3, 70)}, from(lt(-3, 0, 2, 7, -5), 3, 70))
	becomes(t, list{from(eq(6, 0, -3), 3), from(eq(-3, 0, 2), 3), from(eq(0, 1, -5, 2, 5), 0)}, from(eq(-2, 0, 1), 3), from(eq(-3, 0, 2), 3), from(eq(0, 1, 1, 2, -1), 0))
	becomes(t, list{from(le(0, 0, -5), 0), from(lt(0, 0, -5), 0)}, from(le(0, 0, -1), 0), from(lt(0, 0, -1), 0))
	// They stay in their row, whatever atoms and sets they have.
	becomes(t, list{from(x(5), 3), from(zero(1), 2), from(lt(0, 0, 1), 9), from(x(2), 0), from(x(0), 1)}, from(x(5), 3), from(zero(1), 2), from(lt(0, 0, 1), 9), from(x(2), 0), from(x(0), 1))
	becomes(t, list{from(x(0), 200), from(x(0), 3), from(x(0), 70), from(x(0), 3, 70), from(x(0), 0)}, from(x(0), 200), from(x(0), 3), from(x(0), 70), from(x(0), 3, 70), from(x(0), 0))
	// Rows that are the same, and that come to be the same, next to one another and far apart.
	p, q := from(x(0), 0, 1), from(lt(3, 1, 2), 2)
	becomes(t, list{p, p}, p)
	becomes(t, list{p, q, p}, p, q)
	becomes(t, list{q, p, q, p, p, q}, q, p)
	becomes(t, list{from(twice(0), 4), from(x(0), 4)}, from(x(0), 4))
	becomes(t, list{from(x(0), 4), from(le(0, 0, 7), 4), p, from(twice(0), 4), p}, from(x(0), 4), p)
	becomes(t, list{from(eq(-4, 0, 2), 1), p, q, from(eq(2, 0, -1), 1)}, from(eq(-2, 0, 1), 1), p, q)
	many := each(50, func(k int) row { return from(x(k), k) })
	becomes(t, slices.Concat(list{p}, many, list{p, q, p}), slices.Concat(list{p}, many, list{q})...)
	// One canonical atom, and unlike sets; one set, and unlike atoms.
	becomes(t, list{from(twice(0), 0), from(x(0), 1), from(le(0, 0, 3), 0, 1), from(x(0), 64), from(x(0), 1)}, from(x(0), 0), from(x(0), 1), from(x(0), 0, 1), from(x(0), 64))
	becomes(t, list{from(x(0), 5), from(lt(0, 0, 1), 5), from(zero(0), 5), from(le(1, 0, 1), 5), from(le(0, 0, -1), 5), from(x(1), 5)}, from(x(0), 5), from(lt(0, 0, 1), 5), from(zero(0), 5), from(le(1, 0, 1), 5), from(le(0, 0, -1), 5), from(x(1), 5))
	spends(t, nil, 0, 0)
	spends(t, list{p}, 1, 1)
	spends(t, list{p, p, p}, 3, 1)
	spends(t, list{p, q, p}, 3, 2)
	spends(t, slices.Concat(many, many, many), 150, 50)
	for _, l := range []list{{p, p}, {p, q, p}, many, slices.Concat(many, many)} {
		goesByModel(t, l)
	}
}

// P22.2: rows that are true, or false, first, in the midst, and last.
func TestP22_2Truth(t *testing.T) {
	p, q := from(x(0), 0), from(zero(1), 1, 90)
	trues := []api.Atom{le(0), le(-1), lt(-1), eq(0)}
	falses := []api.Atom{le(1), lt(0), lt(5), eq(1), eq(-1)}
	for _, a := range trues {
		r := from(a, 2)
		becomes(t, list{r})
		becomes(t, list{r, r, from(a, 3)})
		for _, l := range []list{{r, p, q}, {p, r, q}, {p, q, r}, {r, p, r, r, q, r}} {
			becomes(t, l, p, q)
			spends(t, l, 2, 2)
		}
		for _, b := range falses {
			isFalse(t, list{r, from(b, 2)})
			isFalse(t, list{from(b, 2), r})
		}
	}
	for _, a := range falses {
		r := from(a, 2)
		isFalse(t, list{r})
		spends(t, list{r}, 0, 0)
		isFalse(t, list{r, r})
		for _, l := range []list{{r, p, q}, {p, r, q}, {p, q, r}, {r, p, r, q}, {p, r, p, p, from(le(0), 1)}} {
			isFalse(t, l)
			// Each canonical atom that is Open is paid, also behind a false one; no row stays.
			steps := 0
			for _, o := range l {
				if len(o.Atom.Term.Parts) > 0 {
					steps++
				}
			}
			spends(t, l, steps, 0)
			goesByModel(t, l)
		}
		// Behind a row for which the budget is used up nothing is asked any more.
		refuses(t, api.ErrBudget, list{p, q, r}, metered(withSteps(1)), "behind a row for which there is no step")
		refuses(t, api.ErrBudget, list{p, r}, metered(withSteps(0)), "behind a row for which there is no step")
		refuses(t, api.ErrBudget, list{p, r, q}, metered(withSteps(1)), "ahead of a row for which there is no step")
		refuses(t, api.ErrBudget, list{r, from(le(1, 0, 1), 0)}, metered(api.Budget{Steps: 9, Rows: 9}), "ahead of a row for whose limbs there is no room")
		_, truth, e := rows.Put(list{p, r, q}, metered(api.Budget{Steps: 2, Limbs: 1}))
		equal(t, e == api.OK && truth == atom.No, true, "no row stays, so that none is asked for")
		// What may not be is looked at ahead of what is false.
		for _, wrong := range wrongRows() {
			refuses(t, api.ErrForm, list{r, wrong}, widest(), "false, and a row that may not be behind it")
			refuses(t, api.ErrForm, list{wrong, r}, widest(), "false, and a row that may not be ahead of it")
		}
	}
}

// few are atoms of three variables, canonical or not; not many, so that the same ones meet often.
func few() []api.Atom {
	return []api.Atom{x(0), twice(0), x(1), le(0, 1, 3), x(2), lt(0, 0, 1), lt(0, 0, 6), lt(2, 0, -4, 2, 6), lt(1, 0, -2, 2, 3), zero(0), eq(0, 0, -2), eq(3, 0, 2), eq(-2, 1, 2, 2, -4), eq(1, 1, -1, 2, 2), le(2, 0, 1, 1, 1), le(4, 0, 2, 1, 2)}
}

// settled are atoms that are true, or false.
func settled() []api.Atom { return []api.Atom{le(0), lt(-2), eq(0), le(1), lt(0), eq(-3)} }

// madeAtom is one of a few atoms, or of any; some are settled.
func madeAtom(r *rand.Rand) api.Atom {
	switch r.Intn(30) {
	case 0:
		return pick(r, settled()[:3])
	case 1:
		return pick(r, settled())
	case 2, 3:
		return api.Atom{Kind: uint8(r.Intn(3)), Term: linear(r.Intn(9)-4, 0, 1+r.Intn(5), 2, -1-r.Intn(3))}
	}
	return pick(r, few())
}

// madeRows are rows of few atoms and few sets.
func madeRows(r *rand.Rand) list {
	from := []set{{1}, {2}, {3}, {0, 1}, {1, 1}, {1, 0, last}, {full, full}, of(777)}
	from = from[:1+r.Intn(len(from))]
	return each(r.Intn(14), func(int) row { return row{madeAtom(r), slices.Clone(pick(r, from))} })
}

// values are values for three variables.
func values(r *rand.Rand) []api.Rat {
	return each(3, func(int) api.Rat {
		q, _ := rat.Make(whole.Of(r.Intn(13)-6), whole.Of(1+r.Intn(2)))
		return q
	})
}

// holds tells whether all rows' atoms are true by values.
func holds(l list, values []api.Rat) bool {
	return !slices.ContainsFunc(l, func(r row) bool { return !atom.Holds(r.Atom, values) })
}

// P22.2, P22.4, P22.5: rows of a fixed seed, against the model, and by what follows.
func TestP22_2Model(t *testing.T) {
	r := rand.New(rand.NewSource(225))
	counts := map[uint8]int{}
	went := 0
	for range 12000 {
		l := madeRows(r)
		out, truth, spent := goesByModel(t, l)
		counts[truth]++
		if truth == atom.No {
			for range 4 {
				equal(t, holds(l, values(r)), false, "what is false holds: ", brief{l})
			}
			continue
		}
		went += spent.Steps - len(out)
		for range 8 {
			v := values(r)
			equal(t, holds(out, v), holds(l, v), "by ", v, ": what ", brief{l}, " says")
		}
		becomes(t, out, out...)
		spends(t, out, len(out), len(out))
		for k, o := range out {
			c, is, e := atom.Canon(api.Real, o.Atom)
			equal(t, rows.May(o) && e == api.OK && is == atom.Open && atom.Same(c, o.Atom), true, "row ", k, " is canonical: ", brief{l})
			for _, other := range out[:k] {
				equal(t, rows.Same(other, o), false, "row ", k, " is the same as one ahead: ", brief{l})
			}
			isIt := func(h row) bool {
				c, _, _ := atom.Canon(api.Real, h.Atom)
				return rows.Same(row{c, h.From}, o)
			}
			equal(t, slices.ContainsFunc(l, isIt), true, "row ", k, " was handed in: ", brief{l})
		}
	}
	if counts[atom.Open] < 3000 || counts[atom.No] < 1000 || went < 3000 {
		t.Error("open", counts[atom.Open], "false", counts[atom.No], "rows that went", went)
	}
}

// TestPairs: two rows of each two atoms and each two sets, behind one another.
func TestPairs(t *testing.T) {
	atoms := slices.Concat(few(), settled(), []api.Atom{x(lastVar), le(math.MaxInt, 0, math.MinInt), eq(0, 0, 1, 1, 1, 2, 1)})
	from := []set{{1}, {3}, {0, 1}, {1, 1}, {last, 1}}
	for _, a := range atoms {
		for _, b := range atoms {
			for _, s := range from {
				for _, u := range from {
					goesByModel(t, list{{a, s}, {b, u}})
				}
			}
		}
	}
	for _, a := range goodRows() {
		for _, b := range goodRows() {
			if len(a.Atom.Term.Add.Limbs)+len(b.Atom.Term.Add.Limbs) < 4 {
				goesByModel(t, list{a, b, a})
			}
		}
	}
}

// TestErrorsPut holds each row of Put's table against the rows behind it.
func TestErrorsPut(t *testing.T) {
	wrong := wrongRows()
	p, q := from(x(0), 0), from(zero(1), 1)
	for k, r := range slices.Concat(wrong, goodRows()) {
		for _, l := range []list{{r}, {p, r}, {r, p}, {p, r, q}} {
			refuses(t, api.ErrNil, l, nil, "no meter, row ", k)
		}
	}
	refuses(t, api.ErrNil, nil, nil, "no meter, no rows")
	for k, r := range wrong {
		for n, l := range []list{{r}, {r, p, q}, {p, r, q}, {p, q, r}, {p, p, p, r}, {r, r}, {from(lt(0), 0), r}, {from(le(0), 0), r, p}} {
			for _, m := range append(usedUp(), widest(), metered(withSteps(0)), metered(api.Budget{}), metered(withRows(0))) {
				was, why := m.Spent(), budget.Text(m.Why())
				refuses(t, api.ErrForm, l, m, "wrong row ", k, ", within ", n)
				// What may not be is looked at ahead of all that is paid.
				equal(t, m.Spent(), was, "what was spent, wrong row ", k, ", within ", n)
				equal(t, budget.Text(m.Why()), why, "why, wrong row ", k, ", within ", n)
			}
		}
	}
	many := each(3000, func(k int) row { return from(x(k), k) })
	for _, at := range []int{0, 1500, 2999} {
		l := slices.Clone(many)
		l[at].From = append(l[at].From, 0)
		refuses(t, api.ErrForm, l, widest(), "of many rows the one at ", at)
	}
	// A meter that said before that a part is used up says nothing else.
	for k, l := range []list{nil, {p}, {p, q}, {p, p}, {from(le(0), 0)}, {from(lt(0), 0)}, {p, from(lt(0), 0)}, many} {
		for n, m := range usedUp() {
			was, why := m.Spent(), budget.Text(m.Why())
			refuses(t, api.ErrBudget, l, m, "meter ", n, ", rows ", k)
			equal(t, m.Spent(), was, "what was spent, meter ", n, ", rows ", k)
			equal(t, budget.Text(m.Why()), why, "why, meter ", n, ", rows ", k)
		}
	}
}

// lengthened is a row of long numbers.
func lengthened(r *rand.Rand) row {
	number := func() api.Int {
		return api.Int{Neg: r.Intn(2) == 0, Limbs: slices.Repeat([]uint32{r.Uint32() | 1}, 1+r.Intn(4))}
	}
	a := api.Atom{Kind: uint8(r.Intn(3)), Term: api.Term{Parts: []api.Part{{Var: 0, Coef: number()}, {Var: 3, Coef: number()}}, Add: number()}}
	return row{a, set{1 << r.Intn(3)}}
}

// P22.6, S7, P7: with what was spent, and with more, the same is told; with one less in any part it is refused; with any budget it is the same, or refused.
func TestP22_6Budget(t *testing.T) {
	r := rand.New(rand.NewSource(226))
	for range 6000 {
		l := madeRows(r)
		for range r.Intn(3) {
			l = slices.Insert(l, r.Intn(len(l)+1), lengthened(r))
		}
		want, wantTruth, spent := goesByModel(t, l)
		just := func(b api.Budget, what string) {
			m := metered(b)
			out, truth, e := rows.Put(l, m)
			equal(t, e, api.OK, what, ", of ", brief{l})
			equal(t, truth, wantTruth, what, ": truth of ", brief{l})
			tells(t, out, want, what, ", of ", brief{l})
			equal(t, m.Spent(), spent, what, ": what was spent, for ", brief{l})
		}
		just(spent, "with what was spent")
		just(api.Budget{Steps: spent.Steps + r.Intn(3), Rows: spent.Rows + r.Intn(3), Limbs: spent.Limbs + r.Intn(3), Depth: r.Intn(3)}, "with more")
		for k, part := range []func(b *api.Budget) *int{func(b *api.Budget) *int { return &b.Steps }, func(b *api.Budget) *int { return &b.Rows }, func(b *api.Budget) *int { return &b.Limbs }} {
			b := spent
			*part(&b)++
			just(b, "one more in a part")
			b = spent
			if *part(&b) == 0 {
				continue
			}
			*part(&b)--
			m := metered(b)
			refuses(t, api.ErrBudget, l, m, "one less in part ", k, ", of ", brief{l})
			name, most, is := budget.Part(m.Why())
			equal(t, is && name == []string{"steps", "rows", "limbs"}[k] && most == *part(&b), true, "why, with one less in part ", k, ", of ", brief{l})
			refuses(t, api.ErrBudget, l, metered(m.Spent()), "with what was spent ahead of an error")
		}
		b := api.Budget{Steps: r.Intn(spent.Steps + 2), Rows: r.Intn(spent.Rows + 2), Limbs: r.Intn(spent.Limbs + 2)}
		if b.Steps >= spent.Steps && b.Rows >= spent.Rows && b.Limbs >= spent.Limbs {
			just(b, "with enough")
		} else {
			refuses(t, api.ErrBudget, l, metered(b), "with too little: ", b, ", of ", brief{l})
		}
	}
}

// P22.2, P22.6: what the meter is told, where it is known by hand; and what one call spends is gone for the next one: steps, but not rows.
func TestP22_6Parts(t *testing.T) {
	wide := row{api.Atom{Term: api.Term{Parts: linear(0, 0, 1).Parts, Add: api.Int{Limbs: []uint32{0, 0, 1}}}}, set{1}}
	// Its numbers are shorter when it is canonical: just those are looked at.
	even := api.Int{Limbs: []uint32{0, 2}}
	shorter := row{api.Atom{Kind: api.Eq, Term: api.Term{Parts: []api.Part{{Var: 0, Coef: even}}, Add: even}}, set{1}}
	yes, no, p, q := from(le(0), 0), from(le(1), 0), from(x(0), 0), from(x(0), 1)
	for k, c := range []struct {
		l     list
		spent api.Budget
	}{
		{nil, api.Budget{}}, {list{yes}, api.Budget{}}, {list{no}, api.Budget{}}, {list{yes, no, yes}, api.Budget{}},
		{list{p}, api.Budget{Steps: 1, Rows: 1, Limbs: 1}}, {list{p, q}, api.Budget{Steps: 2, Rows: 2, Limbs: 1}}, {list{p, p, q, p}, api.Budget{Steps: 4, Rows: 2, Limbs: 1}}, {list{from(twice(0), 0), p, yes, from(twice(0), 1), q, yes}, api.Budget{Steps: 4, Rows: 2, Limbs: 1}},
		{list{no, p}, api.Budget{Steps: 1, Limbs: 1}}, {list{p, no}, api.Budget{Steps: 1, Limbs: 1}}, {list{p, q, no, p}, api.Budget{Steps: 3, Limbs: 1}}, {list{no, wide, no}, api.Budget{Steps: 1, Limbs: 3}},
		{list{wide, p}, api.Budget{Steps: 2, Rows: 2, Limbs: 3}}, {list{wide, wide}, api.Budget{Steps: 2, Rows: 1, Limbs: 3}}, {list{shorter}, api.Budget{Steps: 1, Rows: 1, Limbs: 1}}, {list{row{le(5), set{1}}, row{api.Atom{Kind: api.Lt, Term: api.Term{Add: long(9)}}, set{1}}}, api.Budget{}},
	} {
		_, _, spent := goesByModel(t, c.l)
		equal(t, spent, c.spent, "what was spent, case ", k)
	}
	m := metered(api.Budget{Steps: 5, Rows: 2, Limbs: 1})
	for k, want := range []api.Errno{api.OK, api.OK, api.ErrBudget, api.ErrBudget} {
		_, _, e := rows.Put(list{p, q}, m)
		equal(t, e, want, "put together again, ", k)
	}
	equal(t, m.Spent(), api.Budget{Steps: 5, Rows: 2, Limbs: 1}, "what all of them spent")
	equal(t, budget.Text(m.Why()), "no steps left of 5", "why")
	// Which part is used up first: rows behind the last step, and limbs at the row that has them.
	m = metered(api.Budget{Steps: 2, Rows: 1, Limbs: 1})
	refuses(t, api.ErrBudget, list{p, q}, m, "a row too many")
	equal(t, budget.Text(m.Why()), "no rows left of 1", "why")
	equal(t, m.Spent(), api.Budget{Steps: 2, Limbs: 1}, "spent ahead of a row too many")
	m = metered(api.Budget{Steps: 2, Rows: 9, Limbs: 2})
	refuses(t, api.ErrBudget, list{p, wide, q}, m, "a limb too many")
	equal(t, budget.Text(m.Why()), "no limbs left of 2", "why")
	equal(t, m.Spent(), api.Budget{Steps: 1, Limbs: 1}, "spent ahead of a limb too many")
	m = metered(api.Budget{Steps: 1, Rows: 0, Limbs: 1})
	refuses(t, api.ErrBudget, list{p, q}, m, "a step too many, and rows")
	equal(t, budget.Text(m.Why()), "no steps left of 1", "why")
}

// S7: no more steps are done than the budget has. What is done is told by the memory that is taken up on the way.
func TestFewStepsDone(t *testing.T) {
	l := each(1000, func(k int) row {
		return from(le(k, slices.Concat(each(300, func(v int) []int { return []int{v, 2 * (v%7 + 1)} })...)...), k)
	})
	taken := func(steps int) int {
		m := metered(withSteps(steps))
		var ahead, behind runtime.MemStats
		runtime.ReadMemStats(&ahead)
		_, _, e := rows.Put(l, m)
		runtime.ReadMemStats(&behind)
		equal(t, e == api.OK, steps == len(l), "with ", steps, " steps")
		return int(behind.TotalAlloc - ahead.TotalAlloc)
	}
	all := taken(len(l))
	for _, steps := range []int{0, 1, 10, 100} {
		if some := taken(steps); some > all/len(l)*(steps+2)*2 {
			t.Errorf("with %d steps %d bytes are taken up, with enough of them %d", steps, some, all)
		}
	}
}

// TestMany: many rows that are the same, many of which no two are, and as many as there may be. No two may be held against each other for each two there are.
func TestMany(t *testing.T) {
	const many = 200000
	for k, c := range []struct {
		l    list
		want int
	}{
		{each(many, func(k int) row { return from(le(0, 3, 2+2*(k%9)), 70) }), 1},
		{each(many, func(k int) row { return from(le(k, 3, 1), 70) }), many},
		{each(many, func(k int) row { return from(x(k), 70) }), many},
		{each(many, func(k int) row { return row{x(3), set{uint64(k + 1)}} }), many},
		{each(many, func(k int) row { return row{x(3), set{uint64(k) << 40, 1 + uint64(k%2)}} }), many},
		{each(many, func(k int) row { return from(le(k%1000, k%1000, 1), k%100) }), 1000},
		{each(many, func(k int) row { return from(le(k%1000, k%999, 1), k%7) }), many},
		{each(many, func(k int) row { return from(lt(many-k/2, 0, 1), k%2) }), many},
		{each(many, func(k int) row { return from(eq(many-k/2, 0, 1), 5) }), many / 2},
		{each(many, func(k int) row { return from(le(-k), 5) }), 0},
	} {
		out, truth, spent := put(t, c.l)
		equal(t, truth, atom.Open, "truth of many, case ", k)
		equal(t, len(out), c.want, "how many stay of many, case ", k)
		equal(t, spent.Rows, c.want, "rows of many, case ", k)
		// What stays stands in its row: each is the first one of its kind.
		at := 0
		for n := range out {
			is := func(r row) bool {
				a, _, _ := atom.Canon(api.Real, r.Atom)
				return atom.Same(a, out[n].Atom) && r.From.Same(out[n].From)
			}
			for at < len(c.l) && !is(c.l[at]) {
				at++
			}
		}
		equal(t, at < len(c.l), true, "the row of many, case ", k)
		isFalse(t, append(slices.Clone(c.l), from(eq(1), 0)))
	}
	most := each(mostRows, func(k int) row { return row{x(0), set{uint64(k + 1)}} })
	out, _, spent := put(t, most)
	equal(t, len(out), mostRows, "as many rows as there may be")
	equal(t, spent.Rows, mostRows, "as many rows as there may be")
	m := widest()
	refuses(t, api.ErrBudget, append(most, from(x(1), 0)), m, "one more than there may be")
	equal(t, budget.Text(m.Why()), "no rows left of 1048576", "why")
}

// TestLong: rows of long numbers, of many variables, and of many words.
func TestLong(t *testing.T) {
	wide := api.Atom{Kind: api.Lt, Term: api.Term{Parts: each(5000, func(v int) api.Part { return api.Part{Var: 7 * v, Coef: whole.Of(6)} }), Add: whole.Of(9)}}
	canonical, _, _ := atom.Canon(api.Real, wide)
	becomes(t, list{from(wide, 1), from(x(0), 1), from(canonical, 1), from(wide, 2)}, from(canonical, 1), from(x(0), 1), from(canonical, 2))
	most := api.Atom{Kind: api.Le, Term: api.Term{Parts: []api.Part{{Var: 4, Coef: whole.Of(-3)}}, Add: long(mostLong)}}
	if whole.Sign(most.Term.Add) == 0 {
		t.Fatal("the longest number")
	}
	_, _, spent := goesByModel(t, list{from(most, 0), from(most, 1), from(most, 0)})
	equal(t, spent.Limbs, mostLong, "limbs of the longest number")
	refuses(t, api.ErrBudget, list{from(most, 0)}, metered(api.Budget{Steps: 1, Rows: 1, Limbs: mostLong - 1}), "a limb less")
	// Sets that are alike but for their first, their last word, and one in the midst.
	l := each(300, func(k int) row {
		s := of(mostRows - 1 - k%3)
		s[k*50] |= 4
		return row{x(0), s}
	})
	becomes(t, append(slices.Clone(l), l...), l...)
}

// spareList is a list that has something behind its end, and a look at whether it is as it was.
func spareList[T any](l []T, behind T, looks *[]func() bool) []T {
	long := append(slices.Clone(l), behind, behind)
	kept := fmt.Sprint(long)
	*looks = append(*looks, func() bool { return fmt.Sprint(long) == kept })
	return long[:len(l)]
}

// spareAtom, spareRows are what they are handed, all lists being such.
func spareAtom(a api.Atom, looks *[]func() bool) api.Atom {
	a.Mod.Limbs = spareList(a.Mod.Limbs, 9, looks)
	a.Term.Add.Limbs = spareList(a.Term.Add.Limbs, 9, looks)
	l := slices.Clone(a.Term.Parts)
	for k, p := range l {
		l[k].Coef.Limbs = spareList(p.Coef.Limbs, 9, looks)
	}
	a.Term.Parts = spareList(l, api.Part{Var: 9}, looks)
	return a
}
func spareRows(l list, looks *[]func() bool) list {
	return spareList(each(len(l), func(k int) row {
		return row{spareAtom(l[k].Atom, looks), spareList(l[k].From, 9, looks)}
	}), from(x(9), 9), looks)
}

// alone tells whether lists share nothing: each place of them, to their room's end, holds what was written there, when all are written.
func alone[T any](l [][]T, write func(x *T, k int), holds func(x T, k int) bool) bool {
	count := 0
	for _, m := range l {
		m = m[:cap(m)]
		for k := range m {
			write(&m[k], count)
			count++
		}
	}
	count = 0
	for _, m := range l {
		m = m[:cap(m)]
		for k := range m {
			if !holds(m[k], count) {
				return false
			}
			count++
		}
	}
	return true
}

// apart tells whether no two lists of some sets and atoms share memory. It writes all over it.
func apart(sets []set, atoms []api.Atom) bool {
	var words [][]uint64
	var limbs [][]uint32
	var parts [][]api.Part
	for _, s := range sets {
		words = append(words, s)
	}
	for _, a := range atoms {
		limbs = append(limbs, a.Term.Add.Limbs, a.Mod.Limbs)
		parts = append(parts, a.Term.Parts)
		for _, p := range a.Term.Parts {
			limbs = append(limbs, p.Coef.Limbs)
		}
	}
	is := alone(words, func(x *uint64, k int) { *x = uint64(k) }, func(x uint64, k int) bool { return x == uint64(k) })
	is = is && alone(limbs, func(x *uint32, k int) { *x = uint32(k) }, func(x uint32, k int) bool { return x == uint32(k) })
	return is && alone(parts, func(x *api.Part, k int) { x.Var = k }, func(x api.Part, k int) bool { return x.Var == k })
}

// apartRows tells likewise of rows.
func apartRows(l list) bool {
	is := apart(each(len(l), func(k int) set { return l[k].From }), each(len(l), func(k int) api.Atom { return l[k].Atom }))
	clear(l[:cap(l)])
	return is
}

// R1: what is handed in stays, also behind its end, with an error and without; what is told shares no memory with it, nor within itself; it is told again.
func TestR1Stays(t *testing.T) {
	looked := func(looks []func() bool, what any) {
		t.Helper()
		for k, look := range looks {
			if !look() {
				t.Fatal("something that was handed in has changed:", k, what)
			}
		}
	}
	check := func(l list) {
		t.Helper()
		var looks []func() bool
		l = spareRows(l, &looks)
		atoms := spareList(each(len(l), func(k int) api.Atom { return l[k].Atom }), x(9), &looks)
		for _, b := range []api.Budget{budget.Widest(), withSteps(3), withRows(2)} {
			put := func() (list, string) {
				out, truth, e := rows.Put(l, metered(b))
				return out, fmt.Sprint(out, truth, e)
			}
			out, told := put()
			equal(t, apartRows(out), true, "no memory is shared: Put of ", brief{l})
			_, again := put()
			equal(t, again, told, "Put, told again, of ", brief{l})
		}
		told := rows.Atoms(l)
		equal(t, apart(nil, told), true, "no memory is shared: Atoms of ", brief{l})
		clear(told[:cap(told)])
		tells(t, rows.Atoms(l), atoms, "Atoms, told again, of ", brief{l})
		first, e := rows.Of(atoms)
		was := fmt.Sprint(first, e)
		equal(t, apartRows(first), true, "no memory is shared: Of of ", brief{l})
		first, e = rows.Of(atoms)
		equal(t, fmt.Sprint(first, e), was, "Of, told again, of ", brief{l})
		for k := range l {
			rows.May(l[k])
			rows.Same(l[k], l[0])
		}
		looked(looks, brief{l})
	}
	r := rand.New(rand.NewSource(227))
	for range 1500 {
		l := madeRows(r)
		if r.Intn(2) == 0 {
			l = append(l, lengthened(r), lengthened(r))
		}
		if r.Intn(4) == 0 {
			l = append(l, pick(r, wrongRows()))
		}
		check(l)
	}
	// One row in many places, and one atom, and one set, in many rows, are many when they are told.
	p, s, a := from(x(0), 3, 90), of(1, 70), eq(4, 0, 6, 2, 3)
	check(list{p, p, {x(0), s}, {x(1), s}, {a, s}, {a, of(9)}, {a, of(2)}, p})
	check(list{{x(0), s}, {x(1), s[:1]}, {x(2), s[1:]}})
	checkSets := func(s, u set) {
		t.Helper()
		var looks []func() bool
		s, u = spareList(s, 9, &looks), spareList(u, 9, &looks)
		l := spareList(slices.Concat([]int{-1, 5}, s.List(), []int{mostRows, 3}, u.List()), 9, &looks)
		for k, call := range []func() set{func() set { return s.Or(u) }, func() set { return u.Or(s) }, func() set { return s.Or(s) }, func() set { return s.Or(nil) }, func() set { return rows.From(l) }} {
			told := call()
			was := fmt.Sprint(told)
			equal(t, apart([]set{told}, nil), true, "what a call tells is written over")
			looked(looks, brief{s})
			equal(t, fmt.Sprint(call()), was, "call ", k, ", told again, of ", brief{s}, brief{u})
		}
		told := s.List()
		was := fmt.Sprint(told)
		clear(told[:cap(told)])
		equal(t, fmt.Sprint(s.List()), was, "List, told again, of ", brief{s})
		_ = fmt.Sprint(s.May(), s.Len(), s.Has(3), s.Within(u), s.Same(u))
		looked(looks, brief{s})
	}
	for range 1000 {
		checkSets(madeSet(r), madeSet(r))
	}
}

// R1: whatever is in sets, in rows, and in atoms: each call ends, and tells what it tells of what may be, or an error alone.
func TestR1Wild(t *testing.T) {
	r := rand.New(rand.NewSource(228))
	atoms := slices.Concat(few(), few(), few(), settled(), divs(), wrongAtoms()[:14], []api.Atom{{}})
	wild := func(int) row {
		if r.Intn(3) > 0 {
			return row{pick(r, few()), of(r.Intn(5))}
		}
		return row{pick(r, atoms), madeSet(r)}
	}
	count := map[api.Errno]int{}
	for range 20000 {
		l := each(r.Intn(6), wild)
		mayNot := slices.ContainsFunc(l, func(r row) bool { return !rows.May(r) })
		m := metered(api.Budget{Steps: r.Intn(3) * r.Intn(6), Rows: r.Intn(9), Limbs: r.Intn(3)})
		out, truth, e := rows.Put(l, m)
		count[e]++
		equal(t, e == api.ErrForm, mayNot, "wild: Put of ", brief{l})
		if e == api.OK && truth == atom.Open {
			becomes(t, out, out...)
		} else {
			equal(t, len(out), 0, "wild: rows, of ", brief{l})
			equal(t, e == api.OK || truth == 0, true, "wild: truth beside an error, of ", brief{l})
		}
		handed := rows.Atoms(l)
		equal(t, len(handed), len(l), "wild: Atoms of ", brief{l})
		first, e := rows.Of(handed)
		count[e]++
		equal(t, len(first) == len(l) || e != api.OK && len(first) == 0, true, "wild: Of of ", brief{l})
		goByLaws(t, madeSet(r), madeSet(r), madeSet(r))
	}
	for _, e := range []api.Errno{api.OK, api.ErrForm, api.ErrSort, api.ErrBudget} {
		if count[e] < 300 {
			t.Error("of", e, "only", count[e])
		}
	}
	_, _, e := rows.Put(list{from(x(0), 0)}, &budget.Meter{})
	equal(t, e, api.ErrBudget, "a meter that New did not make has nothing")
}
