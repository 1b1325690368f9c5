package budget_test

import (
	"errors"
	"fmt"
	"math"
	"math/rand"
	"slices"
	"strings"
	"testing"

	"alidade/api"
	"alidade/budget"
)

// The parts of a budget, in their row, and the most that there may be of each.
var (
	parts = []string{"steps", "rows", "limbs", "depth"}
	most  = []int{1 << 40, 1 << 20, 1 << 16, 1 << 16}
)

// of is the budget of four parts, in their row.
func of(l ...int) api.Budget {
	return api.Budget{Steps: l[0], Rows: l[1], Limbs: l[2], Depth: l[3]}
}

// list is a budget's parts, in their row.
func list(b api.Budget) []int { return []int{b.Steps, b.Rows, b.Limbs, b.Depth} }

// with is a budget, with so much of one part.
func with(b api.Budget, part, n int) api.Budget {
	l := list(b)
	l[part] = n
	return of(l...)
}

// long is a whole number of so many limbs.
func long(n int) api.Int { return api.Int{Neg: n%2 == 1, Limbs: slices.Repeat([]uint32{7}, n)} }

// atom is an atom whose numbers have so many limbs: Add, Mod, and Coefs.
func atom(add, mod int, coefs ...int) api.Atom {
	a := api.Atom{Kind: api.Div, Term: api.Term{Add: long(add)}, Mod: long(mod)}
	for v, n := range coefs {
		a.Term.Parts = append(a.Term.Parts, api.Part{Var: v, Coef: long(n)})
	}
	return a
}

// meter is a meter of a budget that may be.
func meter(t *testing.T, b api.Budget) *budget.Meter {
	t.Helper()
	m, e := budget.New(b)
	if e != api.OK || m == nil {
		t.Fatalf("New of %v: %v, %v", b, m, e)
	}
	return m
}

// is complains unless a call answered what is wanted.
func is[T comparable](t *testing.T, got, want T, what ...any) {
	t.Helper()
	if got != want {
		t.Errorf("%s: got %v, want %v", fmt.Sprint(what...), got, want)
	}
}

// used complains unless a meter says of a part that it is used up, and how much there was of it, and has spent what is wanted.
func used(t *testing.T, m *budget.Meter, part string, n int, spent api.Budget, what ...any) {
	t.Helper()
	name := fmt.Sprint(what...)
	gotPart, gotMost, is := budget.Part(m.Why())
	if gotPart != part || gotMost != n || !is {
		t.Errorf("%s: Part of Why: got %q, %d, %v, want %q, %d, true", name, gotPart, gotMost, is, part, n)
	}
	if s := m.Spent(); s != spent {
		t.Errorf("%s: Spent: got %v, want %v", name, s, spent)
	}
}

// open complains unless a meter has said nothing yet, and has spent what is wanted.
func open(t *testing.T, m *budget.Meter, spent api.Budget, what ...any) {
	t.Helper()
	name := fmt.Sprint(what...)
	if err := m.Why(); err != nil {
		t.Errorf("%s: Why: got %v, want none", name, err)
	}
	if s := m.Spent(); s != spent {
		t.Errorf("%s: Spent: got %v, want %v", name, s, spent)
	}
}

func TestExamples(t *testing.T) {
	m := meter(t, of(1, 9, 1, 9))
	x := api.Atom{Term: api.Term{Parts: []api.Part{{Coef: api.Int{Limbs: []uint32{1}}}}}}
	is(t, m.Pay(x), api.OK, "Pay")
	is(t, m.Pay(x), api.ErrBudget, "Pay, again")
	used(t, m, "steps", 1, of(1, 0, 1, 0), "behind it")
	is(t, budget.Text(m.Why()), "no steps left of 1", "Text")
	is(t, budget.Text(budget.Wrap(m.Why(), "fm")), "fm: no steps left of 1", "Text, wrapped")
	is(t, m.Rows(9), api.ErrBudget, "Rows")
	used(t, m, "steps", 1, of(1, 0, 1, 0), "behind Rows")
}

func TestP11_1May(t *testing.T) {
	is(t, budget.May(api.Budget{}), true, "of nothing")
	is(t, budget.May(of(most...)), true, "the widest one")
	for k, part := range parts {
		for _, rest := range []api.Budget{{}, of(5, 6, 7, 8), of(most...)} {
			for _, n := range []int{math.MinInt, -most[k], -2, -1, 0, 1, 2, most[k] - 1, most[k], most[k] + 1, 2 * most[k], math.MaxInt} {
				b, may := with(rest, k, n), n >= 0 && n <= most[k]
				is(t, budget.May(b), may, part, " ", b)
				m, e := budget.New(b)
				if may {
					is(t, e, api.OK, "New ", b)
					open(t, m, api.Budget{}, "New ", b)
				} else if e != api.ErrArg || m != nil {
					t.Errorf("New of %v: got %v, %v, want none, ErrArg", b, m, e)
				}
			}
		}
	}
}

func TestP11_1Widest(t *testing.T) {
	is(t, budget.Widest(), of(most...), "the widest one")
	m := meter(t, budget.Widest())
	is(t, m.Pay(atom(most[2], 0)), api.OK, "the longest number")
	is(t, m.Rows(most[1]), api.OK, "the most rows")
	is(t, m.Deep(most[3]), api.OK, "the deepest text")
	open(t, m, of(1, most[1], most[2], most[3]), "all of it")
	is(t, m.Pay(atom(1, 0, 1, most[2]+1)), api.ErrBudget, "a longer number")
	used(t, m, "limbs", most[2], of(1, most[1], most[2], most[3]), "a longer number")
	for _, call := range []struct {
		part int
		tell func(m *budget.Meter) api.Errno
	}{
		{1, func(m *budget.Meter) api.Errno { return m.Rows(most[1] + 1) }},
		{1, func(m *budget.Meter) api.Errno { return m.Rows(math.MaxInt) }},
		{3, func(m *budget.Meter) api.Errno { return m.Deep(most[3] + 1) }},
		{3, func(m *budget.Meter) api.Errno { return m.Deep(math.MaxInt) }},
	} {
		m := meter(t, budget.Widest())
		is(t, call.tell(m), api.ErrBudget, parts[call.part])
		used(t, m, parts[call.part], most[call.part], api.Budget{}, parts[call.part])
	}
}

func TestP11_1Nothing(t *testing.T) {
	for _, call := range []struct {
		name, part string
		tell       func(m *budget.Meter) api.Errno
	}{
		{"Pay of no numbers", "steps", func(m *budget.Meter) api.Errno { return m.Pay(api.Atom{}) }},
		{"Pay of long ones", "steps", func(m *budget.Meter) api.Errno { return m.Pay(atom(1, 1, 1)) }},
		{"Rows", "rows", func(m *budget.Meter) api.Errno { return m.Rows(1) }},
		{"Deep", "depth", func(m *budget.Meter) api.Errno { return m.Deep(1) }},
	} {
		for _, m := range []*budget.Meter{meter(t, api.Budget{}), new(budget.Meter)} {
			for _, n := range []int{0, -1, math.MinInt} {
				is(t, m.Rows(n), api.OK, "Rows ", n)
				is(t, m.Deep(n), api.OK, "Deep ", n)
				open(t, m, api.Budget{}, "Rows, Deep ", n)
			}
			is(t, call.tell(m), api.ErrBudget, call.name)
			used(t, m, call.part, 0, api.Budget{}, call.name)
			is(t, budget.Text(m.Why()), "no "+call.part+" left of 0", call.name)
		}
	}
}

func TestP11_1Steps(t *testing.T) {
	for n := range 20 {
		m := meter(t, of(n, 9, 3, 9))
		for k := range n {
			is(t, m.Pay(atom(0, k%4)), api.OK, k, " of ", n)
			open(t, m, of(k+1, 0, min(k, 3), 0), k, " of ", n)
		}
		is(t, m.Pay(atom(0, 0)), api.ErrBudget, n, " steps")
		used(t, m, "steps", n, of(n, 0, max(0, min(n-1, 3)), 0), n, " steps")
	}
}

func TestP11_1Limbs(t *testing.T) {
	for _, a := range []api.Atom{atom(4, 1, 2, 3), atom(3, 4, 2, 1), atom(1, 2, 4, 3), atom(2, 1, 3, 4), atom(0, 0, 0, 4, 0), atom(4, 4, 4, 4)} {
		just := meter(t, of(9, 9, 4, 9))
		is(t, just.Pay(a), api.OK, "just enough")
		open(t, just, of(1, 0, 4, 0), "just enough")
		less := meter(t, of(9, 9, 3, 9))
		is(t, less.Pay(atom(1, 0)), api.OK, "a short one")
		is(t, less.Pay(a), api.ErrBudget, "one less")
		used(t, less, "limbs", 3, of(1, 0, 1, 0), "one less")
	}
	// Numbers that may not be have the limbs that they have.
	m := meter(t, of(9, 9, 2, 9))
	is(t, m.Pay(api.Atom{Kind: 200, Term: api.Term{Add: api.Int{Neg: true, Limbs: []uint32{0, 0}}}}), api.OK, "no number")
	open(t, m, of(1, 0, 2, 0), "no number")
	is(t, m.Pay(api.Atom{Mod: api.Int{Limbs: []uint32{1, 0, 0}}}), api.ErrBudget, "no number, longer")
	used(t, m, "limbs", 2, of(1, 0, 2, 0), "no number, longer")
}

func TestP11_1Order(t *testing.T) {
	m := meter(t, of(1, 9, 3, 9))
	is(t, m.Pay(atom(1, 0)), api.OK, "the first one")
	is(t, m.Pay(atom(4, 0)), api.ErrBudget, "neither steps nor limbs")
	used(t, m, "steps", 1, of(1, 0, 1, 0), "neither steps nor limbs")
}

func TestP11_1RowsDeep(t *testing.T) {
	for _, call := range []struct {
		part int
		tell func(m *budget.Meter, n int) api.Errno
	}{{1, (*budget.Meter).Rows}, {3, (*budget.Meter).Deep}} {
		part := parts[call.part]
		for n := range 9 {
			m := meter(t, with(api.Budget{}, call.part, n))
			for _, k := range []int{-1, 0, n / 2, n, 0, n - 1, math.MinInt} {
				is(t, call.tell(m, k), api.OK, part, " ", k, " of ", n)
			}
			open(t, m, with(api.Budget{}, call.part, n), part, " ", n)
			is(t, call.tell(m, n+1), api.ErrBudget, part, " ", n+1, " of ", n)
			used(t, m, part, n, with(api.Budget{}, call.part, n), part, " ", n+1, " of ", n)
		}
	}
}

func TestErrNil(t *testing.T) {
	var m *budget.Meter
	for _, n := range []int{math.MinInt, -1, 0, 1, math.MaxInt} {
		is(t, m.Rows(n), api.ErrNil, "Rows ", n)
		is(t, m.Deep(n), api.ErrNil, "Deep ", n)
	}
	is(t, m.Pay(api.Atom{}), api.ErrNil, "Pay")
	is(t, m.Pay(atom(most[2]+1, 0)), api.ErrNil, "Pay, of too much")
	open(t, m, api.Budget{}, "nil")
}

func TestP11_2Most(t *testing.T) {
	m := meter(t, of(9, 9, 9, 9))
	for _, call := range []struct {
		name string
		tell func() api.Errno
		want api.Budget
	}{
		{"Rows 5", func() api.Errno { return m.Rows(5) }, of(0, 5, 0, 0)},
		{"Rows 3", func() api.Errno { return m.Rows(3) }, of(0, 5, 0, 0)},
		{"Deep 4", func() api.Errno { return m.Deep(4) }, of(0, 5, 0, 4)},
		{"Rows 6", func() api.Errno { return m.Rows(6) }, of(0, 6, 0, 4)},
		{"Deep 2", func() api.Errno { return m.Deep(2) }, of(0, 6, 0, 4)},
		{"Pay 2", func() api.Errno { return m.Pay(atom(1, 2)) }, of(1, 6, 2, 4)},
		{"Pay 0", func() api.Errno { return m.Pay(atom(0, 0)) }, of(2, 6, 2, 4)},
		{"Pay 7", func() api.Errno { return m.Pay(atom(1, 2, 7, 3)) }, of(3, 6, 7, 4)},
	} {
		is(t, call.tell(), api.OK, call.name)
		open(t, m, call.want, call.name)
	}
	is(t, m.Deep(10), api.ErrBudget, "Deep 10")
	used(t, m, "depth", 9, of(3, 6, 7, 4), "Deep 10")
}

// foreign is an error from elsewhere that wraps another one.
type foreign struct{ err error }

func (f foreign) Error() string { return "elsewhere: " + f.err.Error() }
func (f foreign) Unwrap() error { return f.err }

// odd is an error that can't be held against another one.
type odd []int

func (o odd) Error() string { return "odd" }

// liar is an error that says that it is all that it is asked for, and hands nothing over.
type liar struct{}

func (l liar) Error() string { return "a lie" }
func (l liar) As(any) bool   { return true }

// bursting is an error all of whose methods panic.
type bursting struct{}

func (b *bursting) Error() string { panic("Error") }
func (b *bursting) Unwrap() error { panic("Unwrap") }
func (b *bursting) As(it any) bool {
	if n, is := it.(*api.Errno); is {
		*n = api.ErrZero
	}
	panic("As")
}
func (b *bursting) Is(error) bool { panic("Is") }

// wrapped is an error, wrapped with words, the last one first.
func wrapped(err error, words ...string) error {
	for _, w := range slices.Backward(words) {
		err = budget.Wrap(err, w)
	}
	return err
}

// ended is the error of a meter whose rows are used up, of so many.
func ended(t *testing.T, n int) error {
	t.Helper()
	m := meter(t, with(budget.Widest(), 1, n))
	is(t, m.Rows(n+1), api.ErrBudget, "Rows")
	return m.Why()
}

// asked is what is asked of an error.
type asked struct {
	name  string
	err   error
	e     api.Errno // the one that it is, or wraps; OK: none
	part  string
	most  int
	words []string
	text  string
}

// right complains unless an error is what is wanted.
func (a asked) right(t *testing.T) {
	t.Helper()
	for e := range api.Errno(60) {
		is(t, budget.Is(a.err, e), e == a.e && e != api.OK, a.name, ", Is ", int(e))
	}
	part, n, yes := budget.Part(a.err)
	is(t, part, a.part, a.name, ", Part")
	is(t, n, a.most, a.name, ", the most of it")
	is(t, yes, a.part != "", a.name, ", whether it is")
	if words := budget.Words(a.err); !slices.Equal(words, a.words) {
		t.Errorf("%s, Words: got %q, want %q", a.name, words, a.words)
	}
	is(t, budget.Text(a.err), a.text, a.name, ", Text")
}

func TestP11_3Budget(t *testing.T) {
	why := ended(t, 5)
	for _, a := range []asked{
		{"as it is", why, api.ErrBudget, "rows", 5, nil, "no rows left of 5"},
		{"wrapped", wrapped(why, "fm"), api.ErrBudget, "rows", 5, []string{"fm"}, "fm: no rows left of 5"},
		{"wrapped twice", wrapped(why, "check-sat", "fm"), api.ErrBudget, "rows", 5, []string{"check-sat", "fm"}, "check-sat: fm: no rows left of 5"},
		{"empty words", wrapped(why, "", "a", ""), api.ErrBudget, "rows", 5, []string{"", "a", ""}, ": a: : no rows left of 5"},
		{"odd words", wrapped(why, "a: b", "\n", "\xff"), api.ErrBudget, "rows", 5, []string{"a: b", "\n", "\xff"}, "a: b: \n: \xff: no rows left of 5"},
		{"of nothing", wrapped(ended(t, 0), "a", "a"), api.ErrBudget, "rows", 0, []string{"a", "a"}, "a: a: no rows left of 0"},
		{"of the most", ended(t, most[1]), api.ErrBudget, "rows", most[1], nil, "no rows left of 1048576"},
		{"wrapped elsewhere", foreign{wrapped(foreign{wrapped(foreign{why}, "a")}, "b")}, api.ErrBudget, "rows", 5, []string{"b", "a"}, "b: a: no rows left of 5"},
		{"joined", wrapped(errors.Join(errors.New("x"), wrapped(why, "a")), "b"), api.ErrBudget, "rows", 5, []string{"b", "a"}, "b: a: no rows left of 5"},
	} {
		a.right(t)
	}
}

func TestP11_3Texts(t *testing.T) {
	for k, part := range parts {
		m := meter(t, with(of(9, 9, 9, 9), k, 3))
		for range 4 {
			m.Pay(atom(4, 0))
			m.Rows(4)
			m.Deep(4)
		}
		want := []asked{
			{err: m.Why(), text: "no " + part + " left of 3", words: nil},
			{err: wrapped(m.Why(), "elim", "x"), text: "elim: x: no " + part + " left of 3", words: []string{"elim", "x"}},
		}
		for _, a := range want {
			a.name, a.e, a.part, a.most = part, api.ErrBudget, part, 3
			a.right(t)
		}
	}
}

func TestP11_3Others(t *testing.T) {
	var nothing *bursting
	for _, a := range []asked{
		{"none", nil, api.OK, "", 0, nil, ""},
		{"none, wrapped", wrapped(nil, "a", "b"), api.OK, "", 0, nil, ""},
		{"a number", api.ErrZero, api.ErrZero, "", 0, nil, "alidade: error 41"},
		{"a number, wrapped", wrapped(api.ErrZero, "a", "b"), api.ErrZero, "", 0, []string{"a", "b"}, "a: b: alidade: error 41"},
		{"ErrBudget itself", api.ErrBudget, api.ErrBudget, "", 0, nil, "alidade: error 46"},
		{"ErrBudget, wrapped", wrapped(api.ErrBudget, "check-sat"), api.ErrBudget, "", 0, []string{"check-sat"}, "check-sat: alidade: error 46"},
		{"a number, wrapped elsewhere", foreign{wrapped(foreign{api.ErrArg}, "a")}, api.ErrArg, "", 0, []string{"a"}, "a: alidade: error 1"},
		{"from elsewhere", errors.New("x"), api.OK, "", 0, nil, "x"},
		{"from elsewhere, wrapped", wrapped(errors.New("x"), "", "a"), api.OK, "", 0, []string{"", "a"}, ": a: x"},
		{"from elsewhere, wrapped there", wrapped(foreign{errors.New("x")}, "a"), api.OK, "", 0, []string{"a"}, "a: elsewhere: x"},
		{"odd", wrapped(odd{1}, "a"), api.OK, "", 0, []string{"a"}, "a: odd"},
		{"a text like a budget's", errors.New("no rows left of 5"), api.OK, "", 0, nil, "no rows left of 5"},
		{"a text with words", errors.New("a: no rows left of 5"), api.OK, "", 0, nil, "a: no rows left of 5"},
		{"bursting", wrapped(&bursting{}, "a"), api.OK, "", 0, []string{"a"}, "a: "},
		{"bursting, nil", wrapped(nothing, "a", "b"), api.OK, "", 0, []string{"a", "b"}, "a: b: "},
		{"bursting, not wrapped", nothing, api.OK, "", 0, nil, ""},
	} {
		a.right(t)
	}
	lie := wrapped(liar{}, "a")
	part, n, yes := budget.Part(lie)
	if part != "" || n != 0 || yes || !slices.Equal(budget.Words(lie), []string{"a"}) || budget.Is(lie, api.ErrBudget) || !strings.HasPrefix(budget.Text(lie), "a: ") {
		t.Errorf("a lie: got %q, %d, %v, %q, %q", part, n, yes, budget.Words(lie), budget.Text(lie))
	}
}

func TestP11_3Wrap(t *testing.T) {
	if err := budget.Wrap(nil, "a"); err != nil {
		t.Errorf("of none: got %v", err)
	}
	why := ended(t, 5)
	for _, err := range []error{why, api.ErrZero, errors.New("x"), wrapped(why, "b")} {
		w := budget.Wrap(err, "a")
		if errors.Unwrap(w) != err || !errors.Is(w, err) {
			t.Errorf("%v: what is wrapped is %v", err, errors.Unwrap(w))
		}
		is(t, w.Error(), budget.Text(w), "Error")
	}
	is(t, errors.Unwrap(why), error(api.ErrBudget), "what a budget's error wraps")
	is(t, why.Error(), "no rows left of 5", "Error")
	is(t, wrapped(why, "a", "b").Error(), "a: b: no rows left of 5", "Error, wrapped")
	// What is wrapped twice is wrapped each time for itself.
	w := wrapped(why, "a")
	one, two := wrapped(w, "b"), wrapped(w, "c")
	is(t, budget.Text(one), "b: a: no rows left of 5", "the one")
	is(t, budget.Text(two), "c: a: no rows left of 5", "the other one")
	is(t, budget.Text(w), "a: no rows left of 5", "what both wrap")
}

// call is one call of a meter.
type call struct {
	kind, n int
	a       api.Atom
}

// calls are so many calls, of a fixed seed.
func calls(r *rand.Rand, n int) []call {
	l := make([]call, n)
	for k := range l {
		l[k] = call{kind: r.Intn(3), n: r.Intn(12) - 2}
		if l[k].kind == 0 {
			l[k].a = atom(r.Intn(5), r.Intn(5), r.Intn(7), r.Intn(5))
		}
	}
	return l
}

// tell makes a call.
func (c call) tell(m *budget.Meter) api.Errno {
	switch c.kind {
	case 0:
		return m.Pay(c.a)
	case 1:
		return m.Rows(c.n)
	}
	return m.Deep(c.n)
}

// need is how much of each part a call asks for, when so many steps are paid.
func (c call) need(steps int) []int {
	switch n := max(c.n, 0); c.kind {
	case 0:
		longest := max(len(c.a.Term.Add.Limbs), len(c.a.Mod.Limbs))
		for _, p := range c.a.Term.Parts {
			longest = max(longest, len(p.Coef.Limbs))
		}
		return []int{steps + 1, 0, longest, 0}
	case 1:
		return []int{0, n, 0, 0}
	default:
		return []int{0, 0, 0, n}
	}
}

// model is what a meter of a budget has to say to calls: how many go well, and what is spent then, and the part that is used up (4: none).
func model(b api.Budget, l []call) (well int, spent api.Budget, part int) {
	sum, room := make([]int, 4), list(b)
	for k, c := range l {
		need := c.need(sum[0])
		for p := range need {
			if need[p] > room[p] {
				return k, of(sum...), p
			}
		}
		for p := range need {
			sum[p] = max(sum[p], need[p])
		}
	}
	return len(l), of(sum...), 4
}

// asks makes calls of a meter, which are to answer what the model says, and behind a refusal are all refused.
func asks(t *testing.T, m *budget.Meter, b api.Budget, l []call) {
	t.Helper()
	well, spent, part := model(b, l)
	for k, c := range l {
		want := api.OK
		if k >= well {
			want = api.ErrBudget
		}
		if e := c.tell(m); e != want {
			t.Errorf("%v: call %d, %v: got %v, want %v", b, k, c, e, want)
		}
	}
	if part == 4 {
		open(t, m, spent, b)
		return
	}
	used(t, m, parts[part], list(b)[part], spent, b)
}

func TestP11_4Enough(t *testing.T) {
	r := rand.New(rand.NewSource(11))
	for range 3000 {
		b := of(r.Intn(12), r.Intn(11), r.Intn(8), r.Intn(11))
		l := calls(r, r.Intn(20))
		m := meter(t, b)
		asks(t, m, b, l)
		well, _, _ := model(b, l)
		just := m.Spent()
		again := meter(t, just)
		for k, c := range l {
			if e := c.tell(again); (e == api.OK) != (k < well) {
				t.Errorf("%v, with what was spent, %v: call %d: got %v", b, just, k, e)
			}
		}
		is(t, again.Spent(), just, "what was spent again")
		more := of(b.Steps+r.Intn(3), b.Rows+r.Intn(3), b.Limbs+r.Intn(3), b.Depth+r.Intn(3))
		wide := meter(t, more)
		asks(t, wide, more, l)
		if n, _, _ := model(more, l); n < well {
			t.Errorf("%v, and more, %v: %d calls, not %d", b, more, n, well)
		}
		// One less of a part that was spent, and something is refused earlier.
		for p, n := range list(just) {
			if n > 0 {
				less := with(just, p, n-1)
				asks(t, meter(t, less), less, l)
				if n, _, part := model(less, l[:well]); n == well || part != p {
					t.Errorf("%v is not just enough: %s", just, parts[p])
				}
			}
		}
	}
}

func TestP11_5First(t *testing.T) {
	tell := []func(m *budget.Meter) api.Errno{
		func(m *budget.Meter) api.Errno { m.Pay(atom(0, 0)); m.Pay(atom(0, 0)); return m.Pay(atom(0, 0)) },
		func(m *budget.Meter) api.Errno { return m.Rows(3) },
		func(m *budget.Meter) api.Errno { return m.Pay(atom(3, 0)) },
		func(m *budget.Meter) api.Errno { return m.Deep(3) },
	}
	for first := range tell {
		m := meter(t, of(2, 2, 2, 2))
		is(t, tell[first](m), api.ErrBudget, parts[first])
		why, spent := m.Why(), m.Spent()
		for later := range tell {
			is(t, tell[later](m), api.ErrBudget, parts[first], ", then ", parts[later])
		}
		for _, n := range []int{math.MinInt, -1, 0, 1, 2, math.MaxInt} {
			is(t, m.Rows(n), api.ErrBudget, parts[first], ", then Rows ", n)
			is(t, m.Deep(n), api.ErrBudget, parts[first], ", then Deep ", n)
		}
		is(t, m.Pay(api.Atom{}), api.ErrBudget, parts[first], ", then Pay")
		used(t, m, parts[first], 2, spent, parts[first])
		if m.Why() != why {
			t.Errorf("%s: Why was %v, is %v", parts[first], why, m.Why())
		}
	}
}

func TestP11_6Wrapped(t *testing.T) {
	err, want := ended(t, 5), []string(nil)
	for k := range 300 {
		word := strings.Repeat("w", k%5)
		err = budget.Wrap(err, word)
		want = append([]string{word}, want...)
		asked{"again", err, api.ErrBudget, "rows", 5, want, strings.Join(want, ": ") + ": no rows left of 5"}.right(t)
	}
	number := wrapped(api.ErrForm, want...)
	asked{"a number", number, api.ErrForm, "", 0, want, strings.Join(want, ": ") + ": alidade: error 4"}.right(t)
}

func TestP11_6Often(t *testing.T) {
	const often = 1 << 16
	words := slices.Repeat([]string{"a", "", "bc", "d"}, often/4)
	text := strings.Join(words, ": ") + ": "
	asked{"a budget's", wrapped(ended(t, 7), words...), api.ErrBudget, "rows", 7, words, text + "no rows left of 7"}.right(t)
	asked{"a number", wrapped(api.ErrSort, words...), api.ErrSort, "", 0, words, text + "alidade: error 42"}.right(t)
	asked{"from elsewhere", wrapped(errors.New("x"), words...), api.OK, "", 0, words, text + "x"}.right(t)
}

func TestR1Memory(t *testing.T) {
	a := atom(3, 2, 1, 4)
	before := atom(3, 2, 1, 4)
	m, other := meter(t, of(2, 2, 4, 2)), meter(t, of(2, 2, 4, 2))
	is(t, m.Pay(a), api.OK, "Pay")
	if fmt.Sprint(a) != fmt.Sprint(before) {
		t.Errorf("Pay changes the atom: %v", a)
	}
	a.Term.Add.Limbs[0], a.Term.Parts[0].Coef = 0, long(9)
	open(t, m, of(1, 0, 4, 0), "the atom changed")
	is(t, m.Rows(3), api.ErrBudget, "Rows")
	open(t, other, api.Budget{}, "another meter")
	err := wrapped(m.Why(), "a", "b")
	words := budget.Words(err)
	words[0], words[1] = "x", "y"
	_ = append(words, "z")
	is(t, budget.Text(err), "a: b: no rows left of 2", "its words changed")
	is(t, strings.Join(budget.Words(err), " "), "a b", "its words, again")
}
