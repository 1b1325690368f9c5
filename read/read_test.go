package read_test

import (
	"fmt"
	"math/big"
	"math/rand"
	"slices"
	"strconv"
	"strings"
	"testing"

	"alidade/api"
	"alidade/budget"
	"alidade/eval"
	"alidade/lex"
	"alidade/logic"
	"alidade/names"
	"alidade/rat"
	"alidade/read"
	"alidade/sexp"
	"alidade/show"
	"alidade/whole"
)

const (
	mostNodes = 1 << 12
	mostDepth = 64
	mostVars  = 1 << 20
	mostLong  = 1 << 16
	// A quotient's two numbers have no more limbs together.
	mostLimbs = mostLong - 2
	limbBits  = 32
)

// formula and node are written often.
type (
	formula = api.Formula
	node    = sexp.Node
)

// linear is the term of a number, and of variables, each with its Coef behind it; they have to rise.
func linear(add int, l ...int) api.Term {
	t := api.Term{Add: whole.Of(add)}
	for ; len(l) > 0; l = l[2:] {
		t.Parts = append(t.Parts, api.Part{Var: l[0], Coef: whole.Of(l[1])})
	}
	return t
}

// leaf is an atom as a formula, made by hand.
func leaf(a api.Atom) formula { return formula{Op: api.Is, Atom: a} }

// le, lt, eq, div are atoms of linear terms, as formulas.
func le(add int, l ...int) formula { return leaf(api.Atom{Kind: api.Le, Term: linear(add, l...)}) }
func lt(add int, l ...int) formula { return leaf(api.Atom{Kind: api.Lt, Term: linear(add, l...)}) }
func eq(add int, l ...int) formula { return leaf(api.Atom{Kind: api.Eq, Term: linear(add, l...)}) }
func div(mod, add int, l ...int) formula {
	return leaf(api.Atom{Kind: api.Div, Term: linear(add, l...), Mod: whole.Of(mod)})
}

// These are made by hand, of whatever stands within.
func yes() formula                       { return formula{Op: api.True} }
func no() formula                        { return formula{Op: api.False} }
func not(f formula) formula              { return formula{Op: api.Not, Kids: []formula{f}} }
func and(l ...formula) formula           { return formula{Op: api.And, Kids: l} }
func or(l ...formula) formula            { return formula{Op: api.Or, Kids: l} }
func exists(f formula, l ...int) formula { return bind(api.Exists, l, f) }
func forall(f formula, l ...int) formula { return bind(api.Forall, l, f) }
func bind(op uint8, l []int, f formula) formula {
	return formula{Op: op, Vars: l, Kids: []formula{f}}
}

// choice is what an ite is.
func choice(f, g, h formula) formula { return or(and(f, g), and(not(f), h)) }

// spell is a formula whose text is made only when it is told.
type spell formula

// String tells all that it has, or how it begins and ends.
func (f spell) String() string { return brief(fmt.Sprint(formula(f))) }

// brief tells a text, or how it begins and ends.
func brief(s string) string {
	if len(s) > 400 {
		return fmt.Sprint(s[:200], " .. ", s[len(s)-200:], ", ", len(s), " bytes")
	}
	return s
}

// short is a text that is shortened only when it is told.
type short string

// String tells how it begins and ends.
func (s short) String() string { return brief(string(s)) }

// equal complains unless something is what is wanted.
func equal[T comparable](t *testing.T, got, want T, what ...any) {
	t.Helper()
	if got != want {
		t.Errorf("%s: got %s, want %s", fmt.Sprint(what...), brief(fmt.Sprint(got)), brief(fmt.Sprint(want)))
	}
}

// logics are both.
func logics() []uint8 { return []uint8{api.Real, api.Whole} }

// pick is one of a list.
func pick[T any](r *rand.Rand, l []T) T { return l[r.Intn(len(l))] }

// declared is a table in which names are declared: their variables are 0, 1, and so on.
func declared(l ...string) *names.Table {
	tab := names.New()
	for _, name := range l {
		if _, e := tab.Declare(name); e != api.OK {
			panic("not declared: " + name)
		}
	}
	return tab
}

// xy is the table of the chapter's examples.
func xy() *names.Table { return declared("x", "y") }

// opened is a table in which a scope is opened, too.
func opened(tab *names.Table, l ...string) *names.Table {
	if _, e := tab.Open(l); e != api.OK {
		panic("not opened")
	}
	return tab
}

// numbered are many names, of a stem and a number.
func numbered(stem string, many int) []string {
	var l []string
	for k := range many {
		l = append(l, stem+strconv.Itoa(k))
	}
	return l
}

// parsed is the only node of a text.
func parsed(s string) node {
	m, _ := budget.New(budget.Widest())
	l, at, e := sexp.Read(s, m)
	if e != api.OK || len(l) != 1 {
		panic(fmt.Sprint("no node: ", brief(s), " at ", at, ": ", e))
	}
	return l[0]
}

// sorted is a text with the logic's sort in place of each S that stands as a word.
func sorted(in uint8, s string) string {
	sort := []string{"Real", "Int"}[in]
	return strings.ReplaceAll(s, " S)", " "+sort+")")
}

// readNode is what Formula tells of a node, where that is to be no error.
func readNode(t *testing.T, in uint8, n node, tab *names.Table, what ...any) formula {
	t.Helper()
	f, at, e := read.Formula(n, in, tab)
	if e != api.OK || at != 0 {
		t.Errorf("%s, logic %d: error %d at %d", fmt.Sprint(what...), in, e, at)
	}
	return f
}

// reads is what Formula tells of a text, where that is to be no error.
func reads(t *testing.T, in uint8, s string, tab *names.Table) formula {
	t.Helper()
	return readNode(t, in, parsed(sorted(in, s)), tab, short(s))
}

// is complains unless Formula tells a formula of a text.
func is(t *testing.T, in uint8, s string, tab *names.Table, want formula) {
	t.Helper()
	if f := reads(t, in, s, tab); !logic.Same(f, want) {
		t.Errorf("%s, logic %d: got %s, want %s", brief(s), in, spell(f), spell(want))
	}
}

// both complains unless Formula tells a formula of a text, in both logics, x and y being declared.
func both(t *testing.T, s string, want formula) {
	t.Helper()
	for _, in := range logics() {
		is(t, in, s, xy(), want)
	}
}

// marked is a text without its mark, and where that stood.
func marked(s string) (text string, at int) {
	at = strings.Index(s, "|")
	if at < 0 || strings.Count(s, "|") > 1 {
		panic("not one mark: " + s)
	}
	return s[:at] + s[at+1:], at
}

// refusesNode complains unless Formula tells an error, and a place, and nothing beside these.
func refusesNode(t *testing.T, in uint8, n node, tab *names.Table, want api.Errno, place int, what ...any) {
	t.Helper()
	f, at, e := read.Formula(n, in, tab)
	if e != want || at != place {
		t.Errorf("%s, logic %d: got error %d at %d, want %d at %d", fmt.Sprint(what...), in, e, at, want, place)
	}
	if f.Op != 0 || len(f.Kids)+len(f.Vars)+len(f.Atom.Term.Parts)+len(f.Atom.Term.Add.Limbs)+len(f.Atom.Mod.Limbs) != 0 {
		t.Errorf("%s: beside the error: %s", fmt.Sprint(what...), spell(f))
	}
}

// refuses complains unless Formula tells an error of a text, at its mark.
func refuses(t *testing.T, in uint8, s string, tab *names.Table, want api.Errno) {
	t.Helper()
	text, at := marked(sorted(in, s))
	refusesNode(t, in, parsed(text), tab, want, at, short(s))
}

// neither complains unless Formula tells an error of a text, at its mark, in both logics, x and y being declared.
func neither(t *testing.T, s string, want api.Errno) {
	t.Helper()
	for _, in := range logics() {
		refuses(t, in, s, xy(), want)
	}
}

// number is a whole number as math/big has it.
func number(x api.Int) *big.Int {
	v := new(big.Int)
	for _, w := range slices.Backward(x.Limbs) {
		v.Or(v.Lsh(v, limbBits), new(big.Int).SetUint64(uint64(w)))
	}
	if x.Neg {
		v.Neg(v)
	}
	return v
}

// limbs is a whole number of math/big as the program has it.
func limbs(n *big.Int) api.Int {
	x := api.Int{Neg: n.Sign() < 0}
	mask := new(big.Int).SetUint64(1<<limbBits - 1)
	for v := new(big.Int).Abs(n); v.Sign() > 0; v.Rsh(v, limbBits) {
		x.Limbs = append(x.Limbs, uint32(new(big.Int).And(v, mask).Uint64()))
	}
	return x
}

func TestExamples(t *testing.T) {
	both(t, "(<= (+ x 1) (* 2 y))", le(1, 0, 1, 1, -2))
	is(t, api.Real, "(> x 0.5)", xy(), lt(1, 0, -2))
	both(t, "(= (ite (< x 0) 0 x) y)", or(and(lt(0, 0, 1), eq(0, 1, -1)), and(not(lt(0, 0, 1)), eq(0, 0, 1, 1, -1))))
	both(t, "(let ((a (+ x y))) (= a a))", eq(0))
	neither(t, "(= 0 |(* x y))", api.ErrLinear)
	neither(t, "|(* x y)", api.ErrLinear)
	is(t, api.Whole, "((_ divisible 3) x)", xy(), div(3, 0, 0, 1))
	neither(t, "|z", api.ErrName)
	neither(t, "(and |x)", api.ErrSort)
	// DOC.md's.
	is(t, api.Real, "(exists ((x Real)) (and (<= y x) (<= x 3)))", xy(), exists(and(le(0, 1, 1, 2, -1), le(-3, 2, 1)), 2))
	is(t, api.Whole, "(exists ((y Int)) (= x (* 2 y)))", xy(), exists(eq(0, 0, 1, 2, -2), 2))
	is(t, api.Whole, "(forall ((x Int)) (exists ((y Int)) (= x (* 2 y))))", xy(), forall(exists(eq(0, 2, 1, 3, -2), 3), 2))
}

func TestP18_2Sort(t *testing.T) {
	for by := range 256 {
		want := ""
		switch uint8(by) {
		case api.Real:
			want = "Real"
		case api.Whole:
			want = "Int"
		}
		equal(t, read.Sort(uint8(by)), want, "Sort of ", by)
	}
}

func TestP18_1Formulas(t *testing.T) {
	p, q, s := le(0, 0, 1), le(0, 1, 1), lt(-1, 0, 1)
	for text, want := range map[string]formula{
		"true":                     yes(),
		"false":                    no(),
		"(not true)":               not(yes()),
		"(not (not P))":            not(not(p)),
		"(and)":                    and(),
		"(or)":                     or(),
		"(and P)":                  and(p),
		"(or P)":                   or(p),
		"(and P Q R)":              and(p, q, s),
		"(or P Q R P)":             or(p, q, s, p),
		"(and (and P) (and) Q)":    and(and(p), and(), q),
		"(or (or P (or)) true)":    or(or(p, or()), yes()),
		"(=> P Q)":                 or(not(p), q),
		"(=> P Q R)":               or(not(and(p, q)), s),
		"(=> P Q R true)":          or(not(and(p, q, s)), yes()),
		"(=> P (=> Q R))":          or(not(p), or(not(q), s)),
		"(=> (and P Q) R)":         or(not(and(p, q)), s),
		"(ite P Q R)":              choice(p, q, s),
		"(ite true false true)":    choice(yes(), no(), yes()),
		"(ite (ite P Q R) P Q)":    choice(choice(p, q, s), p, q),
		"(ite P (ite Q P R) R)":    choice(p, choice(q, p, s), s),
		"(ite P Q (ite R P true))": choice(p, q, choice(s, p, yes())),
		"(not (ite P Q R))":        not(choice(p, q, s)),
		"(let ((c P)) c)":          p,
		"(let ((c P)) (and c c))":  and(p, p),
	} {
		words := strings.NewReplacer("P", "(<= x 0)", "Q", "(<= y 0)", "R", "(< x 1)")
		both(t, words.Replace(text), want)
	}
}

func TestP18_1Comparisons(t *testing.T) {
	both(t, "(= x y)", eq(0, 0, 1, 1, -1))
	both(t, "(<= x y)", le(0, 0, 1, 1, -1))
	both(t, "(< x y)", lt(0, 0, 1, 1, -1))
	both(t, "(>= x y)", le(0, 0, -1, 1, 1))
	both(t, "(> x y)", lt(0, 0, -1, 1, 1))
	both(t, "(= 1 2)", eq(-1))
	both(t, "(<= 1 2)", le(-1))
	both(t, "(< 2 2)", lt(0))
	both(t, "(>= 1 2)", le(1))
	both(t, "(> 1 3)", lt(2))
	// Nothing is made canonical.
	both(t, "(= (* 2 x) (* 4 y))", eq(0, 0, 2, 1, -4))
	both(t, "(= 0 (* 2 x))", eq(0, 0, -2))
	both(t, "(< (* 6 x) 3)", lt(-3, 0, 6))
	both(t, "(= x x)", eq(0))
	both(t, "(<= (+ x y) (+ y x 2))", le(-2))
	is(t, api.Whole, "((_ divisible 4) (+ (* 6 x) 9))", xy(), div(4, 9, 0, 6))
}

func TestP18_1Terms(t *testing.T) {
	for s, want := range map[string]api.Term{
		"0":                         linear(0),
		"7":                         linear(7),
		"x":                         linear(0, 0, 1),
		"(- x)":                     linear(0, 0, -1),
		"(- 7)":                     linear(-7),
		"(- (- x))":                 linear(0, 0, 1),
		"(- (+ x 1))":               linear(-1, 0, -1),
		"(- x y)":                   linear(0, 0, 1, 1, -1),
		"(- x x)":                   linear(0),
		"(- 1 x y 3)":               linear(-2, 0, -1, 1, -1),
		"(- x y x y)":               linear(0, 1, -2),
		"(+ x y)":                   linear(0, 0, 1, 1, 1),
		"(+ y x)":                   linear(0, 0, 1, 1, 1),
		"(+ 1 y 2 x y x x 4)":       linear(7, 0, 3, 1, 2),
		"(+ x (- x) y)":             linear(0, 1, 1),
		"(+ (+ x 1) (- (+ 1 x) y))": linear(2, 0, 2, 1, -1),
		"(* 2 x)":                   linear(0, 0, 2),
		"(* x 2)":                   linear(0, 0, 2),
		"(* 2 3)":                   linear(6),
		"(* 0 x)":                   linear(0),
		"(* x 0)":                   linear(0),
		"(* (- 3) (+ x 2))":         linear(-6, 0, -3),
		"(* (+ x y 1) (- 2 4))":     linear(-2, 0, -2, 1, -2),
		"(* (- x x) y)":             linear(0),
		"(* y (- x x))":             linear(0),
		"(* (+ (- x x) 3) y)":       linear(0, 1, 3),
		"(* (- x x) (- y y))":       linear(0),
		"(* (- y (- y 2)) (* 3 x))": linear(0, 0, 6),
		"(let ((c 2)) (* c x))":     linear(0, 0, 2),
		"(let ((c x)) (* c 2))":     linear(0, 0, 2),
	} {
		both(t, "(<= "+s+" 0)", leaf(api.Atom{Kind: api.Le, Term: want}))
		is(t, api.Whole, "((_ divisible 5) "+s+")", xy(), leaf(api.Atom{Kind: api.Div, Term: want, Mod: whole.Of(5)}))
	}
}

func TestP18_1Quotients(t *testing.T) {
	for s, want := range map[string]formula{
		"(= x 0.5)":                               eq(-1, 0, 2),
		"(= x 1.0)":                               eq(-1, 0, 1),
		"(= x 0.0)":                               eq(0, 0, 1),
		"(= x 0.250)":                             eq(-1, 0, 4),
		"(= x 12.5)":                              eq(-25, 0, 2),
		"(= 0.5 1.5)":                             eq(-1),
		"(< 0.5 0.75)":                            lt(-1),
		"(= x (/ 1 3))":                           eq(-1, 0, 3),
		"(= x (/ 3 3))":                           eq(-1, 0, 1),
		"(= x (/ 6 4))":                           eq(-3, 0, 2),
		"(= x (/ 0 4))":                           eq(0, 0, 1),
		"(= x (/ (- 1) 3))":                       eq(1, 0, 3),
		"(= x (/ 1 (- 3)))":                       eq(1, 0, 3),
		"(= x (/ (/ 1 2) (/ 3 4)))":               eq(-2, 0, 3),
		"(= x (/ (- x x 1) (- y (- y 2))))":       eq(1, 0, 2),
		"(= (* (/ 1 2) x) (* (/ 1 3) y))":         eq(0, 0, 3, 1, -2),
		"(<= (* (/ 1 2) x) (/ 1 3))":              le(-2, 0, 3),
		"(< (* 0.1 x) (* 0.25 y))":                lt(0, 0, 2, 1, -5),
		"(>= (* 0.5 x) (+ y 0.75))":               le(3, 0, -2, 1, 4),
		"(> (* 1.5 x) (* 1.5 x))":                 lt(0),
		"(= (* 0.5 x) (* (- 0.5) x))":             eq(0, 0, 1),
		"(= (* 0.5 (* 4 x)) 3)":                   eq(-3, 0, 2),
		"(= (* 1.5 x) (* 3.5 y))":                 eq(0, 0, 3, 1, -7),
		"(= (* (/ 2 3) x) (* (/ 4 9) y))":         eq(0, 0, 6, 1, -4),
		"(= (+ (* (/ 1 6) x) (/ 1 10)) (/ 1 15))": eq(1, 0, 5),
		"(= (ite (= x 0) 0.5 (/ 1 3)) y)":         choice(eq(0, 0, 1), eq(1, 1, -2), eq(1, 1, -3)),
		"(= (* 2 (* 0.5 x)) (+ 0.5 0.5))":         eq(-1, 0, 1),
	} {
		is(t, api.Real, s, xy(), want)
	}
}

func TestP18_1Ites(t *testing.T) {
	p, q := le(0, 0, 1), lt(0, 1, 1)
	for text, want := range map[string]formula{
		"(= (ite P 1 2) 0)":                           choice(p, eq(1), eq(2)),
		"(= 0 (ite P 1 2))":                           choice(p, eq(-1), eq(-2)),
		"(= (ite P 1 2) (ite Q 3 5))":                 choice(p, choice(q, eq(-2), eq(-4)), choice(q, eq(-1), eq(-3))),
		"(>= (ite P 1 2) (ite Q 3 5))":                choice(p, choice(q, le(2), le(4)), choice(q, le(1), le(3))),
		"(> (ite P x 2) y)":                           choice(p, lt(0, 0, -1, 1, 1), lt(-2, 1, 1)),
		"(= (+ (ite P 1 2) (ite Q 10 20)) 0)":         choice(p, choice(q, eq(11), eq(21)), choice(q, eq(12), eq(22))),
		"(= (+ x (ite P 1 2) y 3 (ite Q 10 20) x) 0)": choice(p, choice(q, eq(14, 0, 2, 1, 1), eq(24, 0, 2, 1, 1)), choice(q, eq(15, 0, 2, 1, 1), eq(25, 0, 2, 1, 1))),
		"(= (- (ite P 1 2)) 0)":                       choice(p, eq(-1), eq(-2)),
		"(= (- x (ite P 1 2) (ite Q 10 20)) 0)":       choice(p, choice(q, eq(-11, 0, 1), eq(-21, 0, 1)), choice(q, eq(-12, 0, 1), eq(-22, 0, 1))),
		"(= (* (ite P 1 2) (ite Q x 3)) 0)":           choice(p, choice(q, eq(0, 0, 1), eq(3)), choice(q, eq(0, 0, 2), eq(6))),
		"(= (* (ite P x 2) 3) 0)":                     choice(p, eq(0, 0, 3), eq(6)),
		"(= (ite P (ite Q 1 2) 3) 0)":                 choice(p, choice(q, eq(1), eq(2)), eq(3)),
		"(= (ite P 1 (ite Q 2 3)) 0)":                 choice(p, eq(1), choice(q, eq(2), eq(3))),
		"(= (ite (= (ite P 1 2) x) 3 4) 0)":           choice(choice(p, eq(1, 0, -1), eq(2, 0, -1)), eq(3), eq(4)),
		"(= (ite (and P Q) 3 4) (ite P 1 2))":         choice(and(p, q), choice(p, eq(2), eq(1)), choice(p, eq(3), eq(2))),
		"(let ((c (ite P 1 2))) (= c c))":             choice(p, choice(p, eq(0), eq(-1)), choice(p, eq(1), eq(0))),
		"(= (let ((c (ite P 1 2))) (+ c x)) 0)":       choice(p, eq(1, 0, 1), eq(2, 0, 1)),
		"(= (ite P (- x x) x) 0)":                     choice(p, eq(0), eq(0, 0, 1)),
		"(= (* (ite P (- x x) 2) y) 0)":               choice(p, eq(0), eq(0, 1, 2)),
	} {
		words := strings.NewReplacer("P", "(<= x 0)", "Q", "(< y 0)")
		both(t, words.Replace(text), want)
	}
	is(t, api.Whole, "((_ divisible 3) (+ x (ite (< y 0) 1 2)))", xy(), choice(q, div(3, 1, 0, 1), div(3, 2, 0, 1)))
	is(t, api.Real, "(= (/ (ite (< y 0) 1 2) (ite (<= x 0) 3 (/ 1 5))) x)", xy(),
		choice(q, choice(p, eq(1, 0, -3), eq(5, 0, -1)), choice(p, eq(2, 0, -3), eq(10, 0, -1))))
}

func TestP18_1Divisible(t *testing.T) {
	is(t, api.Whole, "((_ divisible 1) x)", xy(), div(1, 0, 0, 1))
	is(t, api.Whole, "((_ divisible 12) 7)", xy(), div(12, 7))
	// Coefs stay as they are, also above the number.
	is(t, api.Whole, "((_ divisible 3) (+ (* 7 x) (- 5)))", xy(), div(3, -5, 0, 7))
	for _, digits := range []int{9, 10, 19, 20, 100, 10000} {
		s := strings.Repeat("7", digits)
		n, _ := new(big.Int).SetString(s, 10)
		want := leaf(api.Atom{Kind: api.Div, Term: linear(0, 1, 1), Mod: limbs(n)})
		is(t, api.Whole, "((_ divisible "+s+") y)", xy(), want)
	}
}

func TestP18_1Quantifiers(t *testing.T) {
	both(t, "(exists ((z S)) (= z x))", exists(eq(0, 0, -1, 2, 1), 2))
	both(t, "(forall ((z S)) (= z x))", forall(eq(0, 0, -1, 2, 1), 2))
	both(t, "(exists ((z S) (w S) (u S)) (= w x))", exists(eq(0, 0, -1, 3, 1), 2, 3, 4))
	both(t, "(exists ((x S)) (= x y))", exists(eq(0, 1, -1, 2, 1), 2))
	both(t, "(exists ((z S)) (forall ((z S)) (= z 0)))", exists(forall(eq(0, 3, 1), 3), 2))
	both(t, "(exists ((z S)) (and (forall ((z S)) (= z 0)) (= z 1)))", exists(and(forall(eq(0, 3, 1), 3), eq(-1, 2, 1)), 2))
	both(t, "(and (exists ((z S)) (= z 0)) (exists ((z S)) (= z 1)))", and(exists(eq(0, 2, 1), 2), exists(eq(-1, 3, 1), 3)))
	both(t, "(and (exists ((x S)) (= x 0)) (= x 1))", and(exists(eq(0, 2, 1), 2), eq(-1, 0, 1)))
	both(t, "(exists ((z S) (y S)) true)", exists(yes(), 2, 3))
	both(t, "(= (ite (exists ((z S)) (= z 0)) 1 2) 0)", choice(exists(eq(0, 2, 1), 2), eq(1), eq(2)))
	// A table's scopes count, too.
	for _, in := range logics() {
		is(t, in, "(exists ((z S)) (= z w))", opened(xy(), "w", "x"), exists(eq(0, 2, -1, 4, 1), 4))
		is(t, in, "(= x w)", opened(xy(), "w", "x"), eq(0, 2, -1, 3, 1))
	}
}

func TestWhatASymbolIs(t *testing.T) {
	// A let hides what is declared, and what a quantifier has; a quantifier hides what was let.
	both(t, "(let ((x y)) (= x 0))", eq(0, 1, 1))
	both(t, "(exists ((z S)) (let ((z y)) (= z 0)))", exists(eq(0, 1, 1), 2))
	both(t, "(let ((z y)) (exists ((z S)) (= z 0)))", exists(eq(0, 2, 1), 2))
	both(t, "(let ((z true)) (and z (exists ((z S)) (= z 0)) z))", and(yes(), exists(eq(0, 2, 1), 2), yes()))
	both(t, "(let ((z 1)) (let ((z 2)) (= z 0)))", eq(2))
	both(t, "(let ((z 1)) (and (let ((z 2)) (= z 0)) (= z 0)))", and(eq(2), eq(1)))
	both(t, "(exists ((z S)) (let ((z (+ z 1))) (let ((z (+ z z))) (= z 0))))", exists(eq(2, 2, 2), 2))
	both(t, "(let ((z true)) (let ((z 1)) (= z 0)))", eq(1))
	both(t, "(let ((x 1)) (exists ((x S)) (let ((x (+ x 5))) (= x 0))))", exists(eq(5, 2, 1), 2))
	// What stands second in a pair stands outside of the let.
	both(t, "(let ((x y) (y x)) (= x 0))", eq(0, 1, 1))
	both(t, "(let ((x y) (y x)) (= y 0))", eq(0, 0, 1))
	both(t, "(let ((a 1)) (let ((a 2) (b a)) (= b 0)))", eq(1))
	both(t, "(let ((a 1)) (let ((b a) (a 2)) (= (+ a (* 10 b)) 0)))", eq(12))
	neither(t, "(let ((a 1) (b |a)) (= b 0))", api.ErrName)
	neither(t, "(let ((a |a)) (= a 0))", api.ErrName)
	// What was let goes with the let, what is bound with the quantifier.
	neither(t, "(and (let ((a true)) a) |a)", api.ErrName)
	neither(t, "(and (exists ((z S)) (= z 0)) (= |z 0))", api.ErrName)
	neither(t, "(let ((a (let ((b 1)) b))) (= a |b))", api.ErrName)
	neither(t, "(= (let ((a 1)) a) |a)", api.ErrName)
	// A variable of a let's term stays what it was, where the name stands within what binds it anew.
	both(t, "(let ((a (+ x 1))) (exists ((x S)) (= a x)))", exists(eq(1, 0, 1, 2, -1), 2))
	both(t, "(exists ((z S)) (let ((a z)) (forall ((z S)) (< a z))))", exists(forall(lt(0, 2, 1, 3, -1), 3), 2))
	both(t, "(exists ((z S)) (let ((a (< z 0))) (forall ((z S)) (and a (< z 0)))))", exists(forall(and(lt(0, 2, 1), lt(0, 3, 1)), 3), 2))
	both(t, "(let ((a (ite (< x 0) x y))) (exists ((x S) (y S)) (= a y)))", exists(choice(lt(0, 0, 1), eq(0, 0, 1, 3, -1), eq(0, 1, 1, 3, -1)), 2, 3))
	// A quantifier that was let is read once, wherever it stands.
	both(t, "(let ((a (exists ((z S)) (= z x)))) (and a a (exists ((w S)) (= w 0))))",
		and(exists(eq(0, 0, -1, 2, 1), 2), exists(eq(0, 0, -1, 2, 1), 2), exists(eq(0, 3, 1), 3)))
	// All names that may be may be bound, and let.
	for _, name := range []string{"-1", "!", "%a", "<>", "reals", "exists1", "let.", strings.Repeat("n", 64), "a/b", "+x", "=="} {
		both(t, "(exists (("+name+" S)) (= "+name+" 0))", exists(eq(0, 2, 1), 2))
		both(t, "(let (("+name+" 3)) (= "+name+" 0))", eq(3))
	}
}

// A model goes by the words: names become variables, and what was let, first; then each atom is put apart at the first ite from the left, till there is none; numbers are those of math/big.

// part is a node whose names are gone: its word (num, var, divides for those of S4 that have none), and what that has.
type part struct {
	word string
	kids []*part
	vars []int
	v    int
	num  *big.Rat
}

// scribe puts variables in place of names.
type scribe struct{ next int }

// part is what a node is, by what names are.
func (s *scribe) part(n node, called map[string]*part) *part {
	switch n.Kind {
	case lex.Numeral, lex.Decimal:
		x, _ := new(big.Rat).SetString(n.Text)
		return &part{word: "num", num: x}
	case lex.Symbol:
		if p := called[n.Text]; p != nil {
			return p
		}
		return &part{word: n.Text}
	}
	p := &part{word: n.Kids[0].Text}
	inner := map[string]*part{}
	for name, q := range called {
		inner[name] = q
	}
	switch p.word {
	case "":
		p.word = "divides"
		p.num, _ = new(big.Rat).SetString(n.Kids[0].Kids[2].Text)
	case "exists", "forall":
		for _, pair := range n.Kids[1].Kids {
			p.vars = append(p.vars, s.next)
			inner[pair.Kids[0].Text] = &part{word: "var", v: s.next}
			s.next++
		}
		p.kids = []*part{s.part(n.Kids[2], inner)}
		return p
	case "let":
		for _, pair := range n.Kids[1].Kids {
			inner[pair.Kids[0].Text] = s.part(pair.Kids[1], called)
		}
		return s.part(n.Kids[2], inner)
	}
	for _, kid := range n.Kids[1:] {
		p.kids = append(p.kids, s.part(kid, called))
	}
	return p
}

// resolved is the part that a node is, names being those that are declared.
func resolved(n node, tab *names.Table) *part {
	called := map[string]*part{}
	l, vars := tab.Declared()
	for k, name := range l {
		called[name] = &part{word: "var", v: vars[k]}
	}
	return (&scribe{tab.Next()}).part(n, called)
}

// isTerm tells whether a part is a term.
func (p *part) isTerm() bool {
	switch p.word {
	case "num", "var", "+", "-", "*", "/":
		return true
	case "ite":
		return p.kids[1].isTerm()
	}
	return false
}

// first is a term's, or an atom's, first ite from the left: when it is what, and the whole with that in its place.
func (p *part) first(which int) (when, whole *part) {
	if p.word == "ite" {
		return p.kids[0], p.kids[which]
	}
	for k, kid := range p.kids {
		if when, inner := kid.first(which); when != nil {
			q := *p
			q.kids = slices.Clone(p.kids)
			q.kids[k] = inner
			return when, &q
		}
	}
	return nil, p
}

// model is the formula that a part is.
func (p *part) model() formula {
	var kids []formula
	switch p.word {
	case "true":
		return yes()
	case "false":
		return no()
	case "=", "<=", "<", ">=", ">", "divides":
		return p.atom()
	}
	for _, kid := range p.kids {
		kids = append(kids, kid.model())
	}
	switch p.word {
	case "not":
		return not(kids[0])
	case "and":
		return and(kids...)
	case "or":
		return or(kids...)
	case "exists":
		return exists(kids[0], p.vars...)
	case "forall":
		return forall(kids[0], p.vars...)
	case "ite":
		return choice(kids[0], kids[1], kids[2])
	case "=>":
		last := len(kids) - 1
		if last == 1 {
			return or(not(kids[0]), kids[1])
		}
		return or(not(and(kids[:last]...)), kids[last])
	}
	panic("no formula: " + p.word)
}

// atom is the formula that an atom is.
func (p *part) atom() formula {
	if when, then := p.first(1); when != nil {
		_, other := p.first(2)
		return choice(when.model(), then.atom(), other.atom())
	}
	a := api.Atom{}
	t := p.kids[0].linear()
	switch p.word {
	case "=":
		a.Kind = api.Eq
	case "<=", ">=":
		a.Kind = api.Le
	case "<", ">":
		a.Kind = api.Lt
	case "divides":
		a.Kind, a.Mod = api.Div, limbs(p.num.Num())
	}
	if a.Kind != api.Div {
		u := p.kids[1].linear()
		if p.word[0] == '>' {
			t, u = u, t
		}
		t = t.plus(u.times(big.NewRat(-1, 1)))
	}
	a.Term = t.whole()
	return leaf(a)
}

// row is a sum: multiples by variables, and a number by -1.
type row map[int]*big.Rat

// plus is a sum.
func (r row) plus(s row) row {
	t := row{}
	for _, of := range []row{r, s} {
		for v, x := range of {
			if t[v] == nil {
				t[v] = new(big.Rat)
			}
			t[v].Add(t[v], x)
		}
	}
	return t
}

// times is a product with a number.
func (r row) times(x *big.Rat) row {
	t := row{}
	for v, y := range r {
		t[v] = new(big.Rat).Mul(x, y)
	}
	return t
}

// isNumber tells whether it has no variables.
func (r row) isNumber() bool {
	for v, x := range r {
		if v >= 0 && x.Sign() != 0 {
			return false
		}
	}
	return true
}

// number is what it has beside variables.
func (r row) number() *big.Rat {
	if r[-1] == nil {
		return new(big.Rat)
	}
	return r[-1]
}

// linear is the sum that a term without ites is; nil: it is not linear.
func (p *part) linear() row {
	switch p.word {
	case "num":
		return row{-1: p.num}
	case "var":
		return row{p.v: big.NewRat(1, 1)}
	}
	var l []row
	for _, kid := range p.kids {
		r := kid.linear()
		if r == nil {
			return nil
		}
		l = append(l, r)
	}
	minus := big.NewRat(-1, 1)
	all := l[0]
	switch p.word {
	case "*":
		if !l[1].isNumber() {
			l[0], l[1] = l[1], l[0]
		}
		if !l[1].isNumber() {
			return nil
		}
		return l[0].times(l[1].number())
	case "/":
		if !l[0].isNumber() || !l[1].isNumber() || l[1].number().Sign() == 0 {
			return nil
		}
		return l[0].times(new(big.Rat).Inv(l[1].number()))
	case "-":
		if len(l) == 1 {
			return all.times(minus)
		}
		for _, r := range l[1:] {
			all = all.plus(r.times(minus))
		}
		return all
	case "+":
		for _, r := range l[1:] {
			all = all.plus(r)
		}
		return all
	}
	panic("no term: " + p.word)
}

// whole is a sum, times the least number by which all of it is whole.
func (r row) whole() api.Term {
	least := big.NewInt(1)
	for _, x := range r {
		least.Mul(least, new(big.Int).Div(x.Denom(), new(big.Int).GCD(nil, nil, least, x.Denom())))
	}
	t := api.Term{}
	var vars []int
	for v := range r {
		vars = append(vars, v)
	}
	slices.Sort(vars)
	for _, v := range vars {
		x := new(big.Rat).Mul(r[v], new(big.Rat).SetInt(least))
		if v < 0 {
			t.Add = limbs(x.Num())
		} else if x.Sign() != 0 {
			t.Parts = append(t.Parts, api.Part{Var: v, Coef: limbs(x.Num())})
		}
	}
	return t
}

// values are what variables are, by math/big.
type values map[int]*big.Rat

// value is what a term is by values, and by a domain.
func (p *part) value(of values, domain []*big.Rat) *big.Rat {
	switch p.word {
	case "num":
		return p.num
	case "var":
		return of[p.v]
	case "ite":
		if p.kids[0].truth(of, domain) {
			return p.kids[1].value(of, domain)
		}
		return p.kids[2].value(of, domain)
	}
	x := new(big.Rat).Set(p.kids[0].value(of, domain))
	if len(p.kids) == 1 {
		return x.Neg(x)
	}
	for _, kid := range p.kids[1:] {
		y := kid.value(of, domain)
		switch p.word {
		case "+":
			x.Add(x, y)
		case "-":
			x.Sub(x, y)
		case "*":
			x.Mul(x, y)
		case "/":
			x.Quo(x, y)
		}
	}
	return x
}

// truth is whether a formula is true by values, and by a domain.
func (p *part) truth(of values, domain []*big.Rat) bool {
	within := func(k int) bool { return p.kids[k].truth(of, domain) }
	row := func(k int) *big.Rat { return p.kids[k].value(of, domain) }
	switch p.word {
	case "true", "false":
		return p.word == "true"
	case "not":
		return !within(0)
	case "and", "or":
		for k := range p.kids {
			if within(k) == (p.word == "or") {
				return p.word == "or"
			}
		}
		return p.word == "and"
	case "=>":
		last := len(p.kids) - 1
		for k := range last {
			if !within(k) {
				return true
			}
		}
		return within(last)
	case "ite":
		if within(0) {
			return within(1)
		}
		return within(2)
	case "=":
		return row(0).Cmp(row(1)) == 0
	case "<=":
		return row(0).Cmp(row(1)) <= 0
	case "<":
		return row(0).Cmp(row(1)) < 0
	case ">=":
		return row(0).Cmp(row(1)) >= 0
	case ">":
		return row(0).Cmp(row(1)) > 0
	case "divides":
		return new(big.Rat).Quo(row(0), p.num).IsInt()
	}
	// A quantifier tries its variables one by one.
	if len(p.vars) == 0 {
		return within(0)
	}
	q := *p
	q.vars = p.vars[1:]
	for _, x := range domain {
		inner := values{}
		for v, y := range of {
			inner[v] = y
		}
		inner[p.vars[0]] = x
		if q.truth(inner, domain) == (p.word == "exists") {
			return p.word == "exists"
		}
	}
	return p.word == "forall"
}

// Texts are made of some names, of which each is there as what the innermost one around has it.

// What a name may stand for.
const (
	aFormula = iota
	aTerm
	aNumber // a term without variables
)

// writer writes texts.
type writer struct {
	*rand.Rand
	in uint8
}

// known is what names stand for.
type known map[string]int

// with is known, and some more.
func (k known) with(more known) known {
	all := known{}
	for _, of := range []known{k, more} {
		for name, what := range of {
			all[name] = what
		}
	}
	return all
}

// name is a name that stands for something, if there is one.
func (w writer) name(k known, what ...int) (string, bool) {
	var l []string
	for name, is := range k {
		if slices.Contains(what, is) {
			l = append(l, name)
		}
	}
	slices.Sort(l)
	if len(l) == 0 {
		return "", false
	}
	return pick(w.Rand, l), true
}

// list is a list of so many pieces.
func (w writer) list(word string, many int, piece func() string) string {
	s := "(" + word
	for range many {
		s += " " + piece()
	}
	return s + ")"
}

// let is a let of some names, whose last piece is made by what they are.
func (w writer) let(k known, deep int, last func(k known) string) string {
	more := known{}
	var pairs []string
	for _, at := range w.Perm(5)[:1+w.Intn(2)] {
		name, what := []string{"x", "y", "z", "c", "d"}[at], w.Intn(3)
		more[name] = what
		pairs = append(pairs, "("+name+" "+w.made(k, deep, what)+")")
	}
	return "(let (" + strings.Join(pairs, " ") + ") " + last(k.with(more)) + ")"
}

// made is a text of what is asked for.
func (w writer) made(k known, deep, what int) string {
	switch what {
	case aFormula:
		return w.formula(k, deep)
	case aTerm:
		return w.term(k, deep)
	}
	return w.number(k, deep)
}

// formula is a formula's text.
func (w writer) formula(k known, deep int) string {
	within := func() string { return w.formula(k, deep-1) }
	term := func() string { return w.term(k, deep-1) }
	if deep == 0 {
		name, is := w.name(k, aFormula)
		if w.Intn(3) > 0 || !is {
			name = w.list(pick(w.Rand, []string{"=", "<=", "<", ">=", ">"}), 2, func() string { return w.term(k, 0) })
		}
		return pick(w.Rand, []string{name, name, name, "true", "false"})
	}
	switch w.Intn(13) {
	case 0:
		return w.list("not", 1, within)
	case 1, 2:
		return w.list(pick(w.Rand, []string{"and", "or"}), w.Intn(4), within)
	case 3:
		return w.list("=>", 2+w.Intn(2), within)
	case 4:
		return w.list("ite", 3, within)
	case 5, 6:
		more := known{}
		pairs := ""
		for _, at := range w.Perm(4)[:1+w.Intn(2)] {
			name := []string{"x", "y", "z", "c"}[at]
			more[name] = aTerm
			pairs += " (" + name + " " + read.Sort(w.in) + ")"
		}
		return "(" + pick(w.Rand, []string{"exists", "forall"}) + " (" + pairs[1:] + ") " + w.formula(k.with(more), deep-1) + ")"
	case 7:
		return w.let(k, deep-1, func(k known) string { return w.formula(k, deep-1) })
	case 8:
		if w.in == api.Whole {
			return w.list("(_ divisible "+strconv.Itoa(1+w.Intn(4))+")", 1, term)
		}
	}
	return w.list(pick(w.Rand, []string{"=", "<=", "<", ">=", ">"}), 2, term)
}

// term is a term's text.
func (w writer) term(k known, deep int) string {
	within := func() string { return w.term(k, deep-1) }
	if deep == 0 {
		if name, is := w.name(k, aTerm, aNumber); is && w.Intn(3) > 0 {
			return name
		}
		return w.number(k, 0)
	}
	switch w.Intn(9) {
	case 0, 1:
		return w.list("+", 2+w.Intn(3), within)
	case 2, 3:
		return w.list("-", 1+w.Intn(3), within)
	case 4:
		return "(* " + w.number(k, deep-1) + " " + within() + ")"
	case 5:
		return "(* " + within() + " " + w.number(k, deep-1) + ")"
	case 6:
		return "(ite " + w.formula(k, deep-1) + " " + within() + " " + within() + ")"
	case 7:
		return w.let(k, deep-1, func(k known) string { return w.term(k, deep-1) })
	}
	return w.term(k, 0)
}

// number is the text of a term without variables (but those that go, or that an ite asks).
func (w writer) number(k known, deep int) string {
	within := func() string { return w.number(k, deep-1) }
	if deep == 0 {
		if name, is := w.name(k, aNumber); is && w.Intn(3) == 0 {
			return name
		}
		if w.in == api.Real && w.Intn(3) == 0 {
			return pick(w.Rand, []string{"0.5", "1.25", "2.0", "0.1", "3.3"})
		}
		return strconv.Itoa(w.Intn(4))
	}
	switch w.Intn(8) {
	case 0:
		return w.list(pick(w.Rand, []string{"+", "-", "*"}), 2, within)
	case 1:
		return w.list("-", 1, within)
	case 2:
		return "(ite " + w.formula(k, deep-1) + " " + within() + " " + within() + ")"
	case 3:
		// Where that has cases, it need not go; then what has it may be not linear.
		if name, is := w.name(k, aTerm); is {
			return "(- " + name + " " + name + ")"
		}
	case 4:
		return w.let(k, deep-1, func(k known) string { return w.number(k, deep-1) })
	case 5:
		if w.in == api.Real {
			return "(/ " + within() + " " + pick(w.Rand, []string{"2", "3", "0.5", "(- 4)", "(ite true 2 7)"}) + ")"
		}
	}
	return w.number(k, 0)
}

// some makes texts of a fixed seed.
func some(in uint8, seed int64, many, deep int, test func(w writer, s string)) {
	w := writer{rand.New(rand.NewSource(seed)), in}
	for range many {
		test(w, w.formula(known{"x": aTerm, "y": aTerm}, w.Intn(deep+1)))
	}
}

// told are texts of a fixed seed that are read, each with its formula. Not many may be more than is read, or not linear.
func told(t *testing.T, in uint8, seed int64, many, deep int, test func(w writer, s string, f formula)) {
	t.Helper()
	taken, refused := 0, 0
	some(in, seed, many, deep, func(w writer, s string) {
		f, at, e := read.Formula(parsed(s), in, xy())
		switch e {
		case api.OK:
			taken++
			equal(t, at, 0, "at, of ", short(s))
			test(w, s, f)
		case api.ErrLinear, api.ErrTooLarge:
			refused++
		default:
			t.Errorf("%s, logic %d: error %d at %d", brief(s), in, e, at)
		}
	})
	if refused > many/5 {
		t.Errorf("logic %d: %d read, %d refused", in, taken, refused)
	}
}

func TestModel(t *testing.T) {
	for _, in := range logics() {
		told(t, in, 18, 12000, 4, func(w writer, s string, f formula) {
			if want := resolved(parsed(s), xy()).model(); !logic.Same(f, want) {
				t.Errorf("%s, logic %d: got %s, want %s", brief(s), in, spell(f), spell(want))
			}
		})
	}
}

// shown is a formula's text.
func shown(t *testing.T, in uint8, f formula, tab *names.Table) string {
	t.Helper()
	s, e := show.Formula(in, f, tab)
	if e != api.OK {
		t.Error("not shown:", e, "of", spell(f))
	}
	return s
}

// made is a formula of a logic, by hand; variables are 0, 1, and others that are bound.
func made(r *rand.Rand, in uint8, deep int, vars []int) formula {
	within := func() formula { return made(r, in, deep-1, vars) }
	if deep == 0 || r.Intn(6) == 0 {
		a := api.Atom{Kind: uint8(r.Intn(3 + int(in)))}
		if a.Kind == api.Div {
			a.Mod = whole.Of(1 + r.Intn(9))
		}
		a.Term.Add = pick(r, []api.Int{{}, {}, whole.Of(3), whole.Of(-7), limbs(new(big.Int).Lsh(big.NewInt(-5), 200))})
		for _, v := range vars {
			if r.Intn(2) == 0 {
				a.Term.Parts = append(a.Term.Parts, api.Part{Var: v, Coef: pick(r, []api.Int{whole.Of(1), whole.Of(-1), whole.Of(12), limbs(new(big.Int).Lsh(big.NewInt(3), 99))})})
			}
		}
		return pick(r, []formula{leaf(a), leaf(a), leaf(a), leaf(a), yes(), no()})
	}
	switch r.Intn(5) {
	case 0:
		return not(within())
	case 1, 2:
		var l []formula
		for range r.Intn(4) {
			l = append(l, within())
		}
		return pick(r, []formula{and(l...), or(l...)})
	}
	// A variable that is bound again, or one that is not there yet.
	v := vars[len(vars)-1] + 1 + r.Intn(3)
	inner := append(slices.Clone(vars), v)
	l := []int{v}
	if r.Intn(2) == 0 {
		l = append(l, pick(r, vars))
	}
	return bind(pick(r, []uint8{api.Exists, api.Forall}), l, made(r, in, deep-1, inner))
}

func TestP18_3Shown(t *testing.T) {
	for _, in := range logics() {
		r := rand.New(rand.NewSource(183))
		for range 5000 {
			f := made(r, in, r.Intn(5), []int{0, 1})
			s := shown(t, in, f, xy())
			tab := xy()
			g := reads(t, in, s, tab)
			if !logic.Alike(f, g) {
				t.Errorf("%s, logic %d: got %s, want one alike %s", brief(s), in, spell(g), spell(f))
			}
			// What is bound is called otherwise, but shown just so.
			equal(t, shown(t, in, g, tab), s, "shown again")
		}
	}
}

func TestP18_3Read(t *testing.T) {
	for _, in := range logics() {
		told(t, in, 1833, 5000, 4, func(w writer, s string, f formula) {
			first := shown(t, in, f, xy())
			g := reads(t, in, first, xy())
			equal(t, shown(t, in, g, xy()), first, "shown again, of ", short(s))
			if !logic.Alike(f, g) {
				t.Errorf("%s, logic %d: got %s, want one alike %s", brief(s), in, spell(g), spell(f))
			}
		})
	}
}

// domain are some numbers of a logic, as both have them.
func domain(in uint8) (l []api.Rat, m []*big.Rat) {
	for _, x := range [][2]int{{0, 1}, {1, 1}, {-2, 1}, {1, 2}, {5, 4}} {
		if in == api.Real || x[1] == 1 {
			y, _ := rat.Make(whole.Of(x[0]), whole.Of(x[1]))
			l, m = append(l, y), append(m, big.NewRat(int64(x[0]), int64(x[1])))
		}
	}
	return l[:3], m[:3]
}

// over is what eval.Over tells.
func over(t *testing.T, in uint8, f formula, values, domain []api.Rat) bool {
	t.Helper()
	truth, e := eval.Over(in, f, values, domain)
	if e != api.OK {
		t.Error("Over:", e, "of", spell(f))
	}
	return truth
}

// quantified is how many variables quantifiers of a formula bind, one within the other at most.
func quantified(f formula) int {
	most := 0
	for _, kid := range f.Kids {
		most = max(most, quantified(kid))
	}
	return most + len(f.Vars)
}

func TestMeaning(t *testing.T) {
	for _, in := range logics() {
		l, m := domain(in)
		told(t, in, 184, 6000, 3, func(w writer, s string, f formula) {
			if quantified(f) > 4 {
				return
			}
			x, y := w.Intn(len(l)), w.Intn(len(l))
			got := over(t, in, f, []api.Rat{l[x], l[y]}, l)
			equal(t, got, resolved(parsed(s), xy()).truth(values{0: m[x], 1: m[y]}, m), "truth of ", short(s), " by ", x, ", ", y)
		})
	}
}

func TestP18_4PieceByPiece(t *testing.T) {
	for _, in := range logics() {
		l, _ := domain(in)
		var last []string
		told(t, in, 1844, 3000, 2, func(w writer, s string, f formula) {
			last = append(last, s)
			if len(last) < 3 || quantified(f) > 3 {
				return
			}
			given := []api.Rat{pick(w.Rand, l), pick(w.Rand, l)}
			is := func(format string, l2 ...any) bool {
				return over(t, in, reads(t, in, fmt.Sprintf(format, l2...), xy()), given, l)
			}
			a, b, c := last[len(last)-3], last[len(last)-2], last[len(last)-1]
			f1, g, h := is("%s", a), is("%s", b), is("%s", c)
			equal(t, is("(not %s)", a), !f1, "not ", short(a))
			equal(t, is("(and %s %s)", a, b), f1 && g, short(a), " and ", short(b))
			equal(t, is("(or %s %s)", a, b), f1 || g, short(a), " or ", short(b))
			equal(t, is("(=> %s %s)", a, b), !f1 || g, short(a), " => ", short(b))
			equal(t, is("(=> %s %s %s)", a, b, c), !(f1 && g) || h, short(a), " => ", short(b), short(c))
			equal(t, is("(ite %s %s %s)", a, b, c), f1 && g || !f1 && h, "ite ", short(a), short(b), short(c))
		})
	}
}

func TestP18_5Let(t *testing.T) {
	uv := func() *names.Table { return declared("u", "v") }
	for _, in := range logics() {
		w := writer{rand.New(rand.NewSource(185)), in}
		taken := 0
		for range 5000 {
			// No text that is made binds u, v, E, or G.
			what, more := w.Intn(3), w.Intn(3)
			first := w.made(known{"u": aTerm, "v": aTerm}, w.Intn(3), what)
			second := w.made(known{"u": aTerm, "v": aTerm}, w.Intn(3), more)
			last := w.formula(known{"u": aTerm, "E": what, "G": more}, 1+w.Intn(3))
			let := "(let ((E " + first + ") (G " + second + ")) " + last + ")"
			put := strings.NewReplacer("E", first, "G", second).Replace(last)
			f, _, e := read.Formula(parsed(let), in, uv())
			g, _, e2 := read.Formula(parsed(put), in, uv())
			if e != api.OK || e2 != api.OK {
				// What is not linear, or too large, may stand where it is let, and not be put anywhere.
				if e2 != api.OK && e == api.OK {
					t.Errorf("%s is read, %s is not: %d", brief(let), brief(put), e2)
				}
				continue
			}
			taken++
			if !logic.Alike(f, g) {
				t.Errorf("%s: got %s, want one alike %s", brief(let), spell(f), spell(g))
			}
		}
		if taken < 3500 {
			t.Error("only", taken, "were read")
		}
	}
}

// pool are names that tables of tests may have.
func pool() []string { return []string{"x", "y", "z", "w", "c", "d", "u", "b0"} }

// stays complains unless a table is what it was, but for the variables that were given out.
func stays(t *testing.T, tab, was *names.Table, bound int, what ...any) {
	t.Helper()
	equal(t, tab.Next()-was.Next(), bound, "variables given out, ", fmt.Sprint(what...))
	for _, name := range pool() {
		v, is := tab.Find(name)
		w, is2 := was.Find(name)
		equal(t, v, w, name, ": ", fmt.Sprint(what...))
		equal(t, is, is2, name, ": ", fmt.Sprint(what...))
	}
	l, vars := tab.Declared()
	l2, vars2 := was.Declared()
	equal(t, slices.Equal(l, l2) && slices.Equal(vars, vars2), true, "Declared, ", fmt.Sprint(what...))
	// As many scopes are open as were.
	for {
		e, e2 := tab.Close(), was.Close()
		equal(t, e, e2, "Close, ", fmt.Sprint(what...))
		if e != api.OK || e2 != api.OK {
			return
		}
		for _, name := range pool() {
			v, is := tab.Find(name)
			w, is2 := was.Find(name)
			equal(t, v == w && is == is2, true, name, " behind a Close, ", fmt.Sprint(what...))
		}
	}
}

func TestP18_6MayBe(t *testing.T) {
	for _, in := range logics() {
		told(t, in, 186, 5000, 4, func(w writer, s string, _ formula) {
			tab := xy()
			for range w.Intn(3) {
				opened(tab, pick(w.Rand, []string{"z", "w"}), "c")
			}
			was := tab.Copy()
			n := parsed(s)
			f := readNode(t, in, n, tab, short(s))
			if !logic.May(f) {
				t.Errorf("%s: %s may not be", brief(s), spell(f))
			}
			for _, a := range logic.Atoms(f) {
				if in == api.Real && a.Kind == api.Div {
					t.Errorf("%s: %s is not in the logic", brief(s), spell(f))
				}
			}
			for _, v := range logic.Free(f) {
				if _, is := tab.Of(v); !is {
					t.Errorf("%s: %d is free, and has no name", brief(s), v)
				}
			}
			scribe := &scribe{was.Next()}
			scribe.part(n, map[string]*part{})
			stays(t, tab, was, scribe.next-was.Next(), short(s))
		})
	}
}

func TestScopesStay(t *testing.T) {
	for _, c := range []struct {
		s     string
		bound int
		e     api.Errno
	}{
		{"(exists ((z S) (w S)) (= z w))", 2, api.OK},
		{"(exists ((z S)) (forall ((w S) (c S)) (= z w)))", 3, api.OK},
		{"(let ((a (exists ((z S)) (= z 0)))) (and a a a))", 1, api.OK},
		{"(let ((a (exists ((z S)) (= z 0)))) true)", 1, api.OK},
		// What is refused at last has bound what it bound till then.
		{"(exists ((z S) (w S)) (= z nothing))", 2, api.ErrName},
		{"(exists ((z S) (w S)) 1)", 2, api.ErrSort},
		{"(exists ((z S)) (forall ((w S)) (exists ((c S)) (* z w))))", 3, api.ErrLinear},
		{"(and (exists ((z S)) (= z 0)) (exists ((w S) (c S)) (= w q)) (exists ((d S)) true))", 3, api.ErrName},
		{"(+ 1 (ite (exists ((z S)) (= z 0)) 1 2))", 1, api.ErrSort},
		// A list's own shape is ahead of all that stands in it.
		{"(exists ((z S) (z S)) (exists ((w S)) true))", 0, api.ErrTwice},
		{"(exists ((z S)) (exists ((w S)) true) true)", 0, api.ErrForm},
		{"(not (exists ((w S)) true) true)", 0, api.ErrForm},
		{"(let ((a (exists ((z S)) (= z 0))) (a true)) true)", 1, api.ErrTwice},
		{"(exists ((z S)) (exists ((w Foo)) true))", 1, api.ErrForm},
	} {
		for _, in := range logics() {
			tab := opened(opened(xy(), "z", "u"), "u", "x")
			was := tab.Copy()
			_, _, e := read.Formula(parsed(sorted(in, c.s)), in, tab)
			equal(t, e, c.e, c.s)
			stays(t, tab, was, c.bound, c.s)
		}
	}
}

// wrongNodes may not be: what their Kind is, or their Text, or their Kids.
func wrongNodes() []node {
	x := node{Kind: lex.Symbol, Text: "x", At: 7}
	return []node{
		{Kind: lex.Symbol, At: 7},
		{Kind: lex.Symbol, Text: "1", At: 7},
		{Kind: lex.Numeral, Text: "01", At: 7},
		{Kind: lex.Decimal, Text: "1", At: 7},
		{Kind: lex.Keyword, Text: "x", At: 7},
		{Kind: lex.Open, Text: "(", At: 7},
		{Kind: lex.Close, Text: ")", At: 7},
		{Kind: 99, Text: "x", At: 7},
		{Text: "x", At: 7},
		{Kind: lex.Symbol, Text: "x", Kids: []node{x}, At: 7},
		{Text: "x", Kids: []node{x}, At: 7},
		{Kids: []node{{Kind: lex.Symbol, Text: "not"}, {Kind: lex.Symbol, Text: "("}}, At: 7},
		{Kids: []node{{Kids: []node{{Kids: []node{{Kind: lex.Numeral, Text: "x"}}}}}}, At: 7},
	}
}

func TestErrOfTheCall(t *testing.T) {
	x := node{Kind: lex.Symbol, Text: "x", At: 7}
	for _, by := range []uint8{2, 3, 17, 128, 255} {
		for _, n := range append(wrongNodes(), x, node{Kind: lex.Symbol, Text: "true", At: 7}, node{At: 7}) {
			// No logic, ahead of no table, and of whatever the node is.
			refusesNode(t, by, n, xy(), api.ErrArg, 7, by)
			refusesNode(t, by, n, nil, api.ErrArg, 7, by)
		}
	}
	for _, in := range logics() {
		for _, n := range append(wrongNodes(), x, node{Kind: lex.Symbol, Text: "true", At: 7}, node{At: 7}) {
			refusesNode(t, in, n, nil, api.ErrNil, 7, "no table")
		}
		for k, n := range wrongNodes() {
			was := xy()
			tab := was.Copy()
			refusesNode(t, in, n, tab, api.ErrForm, 7, "wrong node ", k)
			// Ahead of what is wrong of the others, and of what they bind.
			bad := parsed("(exists ((z Real) (z Int)) (* zz :k))")
			bad.At, bad.Kids[2].Kids[1] = 7, n
			refusesNode(t, in, bad, tab, api.ErrForm, 7, "wrong node ", k)
			stays(t, tab, was, 0, "wrong node ", k)
		}
		// A table without anything will do.
		is(t, in, "(exists ((z S)) (= z 1))", names.New(), exists(eq(-1, 0, 1), 0))
		is(t, in, "(exists ((z S)) (= z 1))", &names.Table{}, exists(eq(-1, 0, 1), 0))
	}
}

func TestErrSortOfTheWhole(t *testing.T) {
	for _, s := range []string{"|1", "|x", "|(+ x 1)", "|(- x)", "|(* 2 x)", "|(ite true 1 2)", "|(let ((a 1)) a)", "|(let ((a true)) 1)", "|(let ((a true)) (ite a 1 x))", " \n |(- 1)"} {
		neither(t, s, api.ErrSort)
	}
	refuses(t, api.Real, "|0.5", xy(), api.ErrSort)
	refuses(t, api.Real, "|(/ 1 2)", xy(), api.ErrSort)
	// At last: whatever stands within is ahead of it.
	neither(t, "(+ x |zz)", api.ErrName)
	neither(t, "(+ x |true)", api.ErrSort)
	neither(t, "|(* x y)", api.ErrLinear)
	neither(t, "(let ((a |zz)) 1)", api.ErrName)
	neither(t, "|(+ x)", api.ErrForm)
}

// words are those of which formulas and terms are made.
func words() []string {
	return []string{"not", "and", "or", "=>", "ite", "=", "<=", "<", ">=", ">", "_", "divisible", "exists", "forall", "let", "-", "+", "*", "/", "Real", "Int"}
}

func TestErrOfAWord(t *testing.T) {
	for _, w := range []string{":k", ":kohler", ":true", ":x", ":1a"} {
		if lex.Kind(w) == lex.Keyword {
			neither(t, "|"+w, api.ErrForm)
			neither(t, "(not |"+w+")", api.ErrForm)
			neither(t, "(= x |"+w+")", api.ErrForm)
		}
	}
	for _, w := range words() {
		neither(t, "|"+w, api.ErrForm)
		neither(t, "(not |"+w+")", api.ErrForm)
		neither(t, "(= x |"+w+")", api.ErrForm)
		neither(t, "(let ((a |"+w+")) true)", api.ErrForm)
	}
	for _, w := range []string{"z", "X", "true1", "TRUE", "True", "-1", "xy", "real", "b0", strings.Repeat("x", 64)} {
		neither(t, "|"+w, api.ErrName)
		neither(t, "(not |"+w+")", api.ErrName)
		neither(t, "(= |"+w+" 0)", api.ErrName)
	}
	for _, w := range []string{"0.5", "1.0", "0.0", "12.250"} {
		refuses(t, api.Whole, "|"+w, xy(), api.ErrSort)
		refuses(t, api.Whole, "(= x |"+w+")", xy(), api.ErrSort)
		refuses(t, api.Whole, "(not |"+w+")", xy(), api.ErrSort)
	}
	// What a scope has had is nothing any more.
	for _, in := range logics() {
		tab := opened(xy(), "z")
		is(t, in, "(= z 0)", tab, eq(0, 2, 1))
		tab.Close()
		refuses(t, in, "(= |z 0)", tab, api.ErrName)
	}
}

func TestErrFormOfAList(t *testing.T) {
	for _, s := range []string{
		"|()", "|(())", "|((()))", "|(true)", "|(false x)", "|(x)", "|(x y)", "|(z 1)", "|(1)", "|(1 2)", "|(:k true)", "|(0.5 1)",
		"|((not) true)", "|((not true))", "|((+ x 1))", "|((x) y)", "|(_ divisible 3)", "|(divisible 3 x)", "|(_ x)", "|(_)", "|(divisible x)", "|(Real x)", "|(Int)",
		"|(not)", "|(not true true)", "|(=>)", "|(=> true)", "|(ite)", "|(ite true)", "|(ite true true)", "|(ite true true true true)",
		"|(=)", "|(= x)", "|(= x x x)", "|(<=)", "|(<= x)", "|(<= x x x)", "|(<)", "|(< x)", "|(< x x x)", "|(>=)", "|(>= x)", "|(>= x x x)", "|(>)", "|(> x)", "|(> x x x)",
		"|(-)", "|(+)", "|(+ x)", "|(*)", "|(* 2)", "|(* 2 x 3)", "|(/)", "|(/ 1)", "|(/ 1 2 3)",
		"|((_ divisible 3))", "|((_ divisible 3) x x)", "|((_ divisible) x)", "|((_ divisible 3 3) x)", "|((_ divisible x) x)", "|((_ divisible 3.0) x)", "|((_ divisible 0) x)", "|((_ divisible :k) x)",
		"|((_ divisible (3)) x)", "|((_ divisible (- 3)) x)", "|((_ divisible -3) x)", "|((_ x 3) x)", "|((_ (divisible) 3) x)", "|((divisible 3) x)", "|((divisible _ 3) x)", "|((_ 3 divisible) x)", "|(((_ divisible 3)) x)", "|((- divisible 3) x)",
		"|(exists)", "|(exists ((z S)))", "|(exists () true)", "|(exists z true)", "|(exists true ((z S)))", "|(exists ((z S)) true true)", "|(exists 1 true)", "|(exists)",
		"|(forall)", "|(forall ((z S)))", "|(forall () true)", "|(forall z true)", "|(forall ((z S)) true true)",
		"|(let)", "|(let ((z 1)))", "|(let () true)", "|(let () 1)", "|(let z true)", "|(let ((z 1)) true true)", "|(let 1 true)",
	} {
		neither(t, s, api.ErrForm)
		neither(t, "(not "+s+")", api.ErrForm)
		neither(t, "(= x "+s+")", api.ErrForm)
		neither(t, "(let ((a "+s+")) true)", api.ErrForm)
		// A list's own shape is ahead of its pieces, whatever these are.
		for _, wrong := range []string{"zz", ":k", "(* x x)", "()", "(exists ((z Foo)) true)"} {
			text, at := marked(s)
			if wrong[0] == '(' && strings.ContainsAny(text[1:2], "efl") {
				// A list in place of a quantifier's, or a let's, pairs would have these looked at.
				continue
			}
			worse := strings.NewReplacer(" true", " "+wrong, " x", " "+wrong, " 1", " "+wrong).Replace(text)
			neither(t, worse[:at]+"|"+worse[at:], api.ErrForm)
		}
	}
}

func TestErrSortOfAList(t *testing.T) {
	for _, s := range []string{"|(/ 1 2)", "|(/ x 2)", "|(/ zz zz)", "|(/ 1 0)", "|(/ true 1)", "|(/ :k ())", "|(/ 0.5 2)"} {
		refuses(t, api.Whole, s, xy(), api.ErrSort)
		refuses(t, api.Whole, "(= x "+s+")", xy(), api.ErrSort)
	}
	for _, s := range []string{"|((_ divisible 3) x)", "|((_ divisible 1) x)", "|((_ divisible 3) zz)", "|((_ divisible 3) true)", "|((_ divisible 3) (* x x))"} {
		refuses(t, api.Real, s, xy(), api.ErrSort)
		refuses(t, api.Real, "(and true "+s+")", xy(), api.ErrSort)
	}
	// In the other logic each is what it is.
	refuses(t, api.Real, "(/ |zz zz)", xy(), api.ErrName)
	refuses(t, api.Whole, "((_ divisible 3) |zz)", xy(), api.ErrName)
	refuses(t, api.Whole, "((_ divisible 3) |true)", xy(), api.ErrSort)
}

// holes are texts in each of which one piece is still to be put in, at the %; what stands behind that is wrong.
func holes(in uint8) (formulas, terms, any []string) {
	formulas = []string{
		"(not %)", "(and % zz)", "(and true % zz)", "(or % zz)", "(or (and) false % 1)", "(=> % zz)", "(=> true % ())", "(=> true true %)", "(ite % zz :k)", "(ite true true %)",
		"(exists ((z S)) %)", "(forall ((z S) (w S)) %)", "(let ((a 1)) (not %))", "(= (ite % zz zz) zz)", "(let ((a (and %)) (b zz)) zz)", "(not (not (or (ite true % zz))))", "(exists ((z S)) (forall ((w S)) (and (= z w) % zz)))",
	}
	formulas[15] = "(not (not (or (ite % true zz) zz)))"
	terms = []string{
		"(= % zz)", "(= 1 %)", "(<= % ())", "(<= x %)", "(< % zz)", "(< x %)", "(>= % zz)", "(>= x %)", "(> % zz)", "(> x %)",
		"(= (- %) zz)", "(= (- % zz) zz)", "(= (- 1 x % true) zz)", "(= (+ % zz) zz)", "(= (+ 1 x % true) zz)", "(= (* % zz) zz)", "(= (* x %) zz)", "(= (ite true 1 %) zz)", "(= (let ((a 1)) (+ a %)) zz)",
		"(exists ((z S)) (< (+ z %) zz))",
	}
	if in == api.Real {
		terms = append(terms, "(= (/ % zz) zz)", "(= (/ 1 %) zz)")
	} else {
		terms = append(terms, "((_ divisible 3) %)", "(and ((_ divisible 3) (+ 1 %)) zz)")
	}
	any = []string{"(let ((a %) (a zz)) zz)", "(let ((a 1) (b %) (c zz)) :k)", "(ite true % zz)", "(= (ite true % zz) zz)", "(let ((a 1)) %)", "(let ((b (ite false % zz))) true)"}
	return formulas, terms, any
}

// put puts a piece, that is marked, into a hole.
func put(hole, piece string) string { return strings.Replace(hole, "%", piece, 1) }

func TestErrOfAPiece(t *testing.T) {
	wrongs := []struct {
		s string
		e api.Errno
	}{
		{"|zz", api.ErrName}, {"|:k", api.ErrForm}, {"|and", api.ErrForm}, {"|()", api.ErrForm}, {"|(+ zz)", api.ErrForm}, {"|(zz x)", api.ErrForm},
		{"(not |zz)", api.ErrName}, {"(not |1)", api.ErrSort}, {"(+ x |true)", api.ErrSort}, {"|(* x y)", api.ErrLinear}, {"(+ |(* x y) zz)", api.ErrLinear}, {"(* x |(* x x))", api.ErrLinear},
		{"(= x |(* x x))", api.ErrLinear}, {"(exists ((c |Foo)) true)", api.ErrForm}, {"(exists ((c S)) |1)", api.ErrSort}, {"(let ((c |zz)) c)", api.ErrName}, {"(ite true 1 |true)", api.ErrSort}, {"(ite true true |1)", api.ErrSort},
		{"(ite |1 true true)", api.ErrSort}, {"(ite |1 1 1)", api.ErrSort}, {"(and (= x 0) (and |zz zz) zz)", api.ErrName}, {"(+ 1 (- |zz) zz)", api.ErrName},
	}
	for _, in := range logics() {
		formulas, terms, any := holes(in)
		for _, wrong := range wrongs {
			for _, hole := range slices.Concat(formulas, terms, any) {
				refuses(t, in, put(hole, wrong.s), xy(), wrong.e)
			}
		}
		// A term where a formula is asked for, and the other way about: behind all that the piece has itself.
		for _, hole := range formulas {
			for _, s := range []string{"|1", "|x", "|(+ x 1)", "|(- x)", "|(* 2 x)", "|(ite true 1 2)", "|(let ((a 1)) a)", "|(let ((a true)) (ite a 1 x))"} {
				refuses(t, in, put(hole, s), xy(), api.ErrSort)
			}
		}
		for _, hole := range terms {
			for _, s := range []string{"|true", "|false", "|(and)", "|(not true)", "|(=> true true)", "|(= x 1)", "|(ite true true false)", "|(let ((a true)) a)", "|(exists ((a S)) true)"} {
				refuses(t, in, put(hole, s), xy(), api.ErrSort)
			}
		}
	}
}

func TestErrOfAPieceThatWasLet(t *testing.T) {
	neither(t, "(let ((a true)) (= |a 1))", api.ErrSort)
	neither(t, "(let ((a 1)) (and |a))", api.ErrSort)
	neither(t, "(let ((a 1) (b true)) (ite b a |b))", api.ErrSort)
	neither(t, "(let ((a 1) (b true)) (ite b b |a))", api.ErrSort)
	neither(t, "|(let ((a 1) (b true)) (ite b a a))", api.ErrSort)
	// What a quantifier binds is a term, whatever it was ahead of it.
	neither(t, "(let ((a true)) (exists ((a S)) |a))", api.ErrSort)
	both(t, "(exists ((a S)) (let ((a true)) a))", exists(yes(), 2))
}

func TestErrOfAPair(t *testing.T) {
	for _, q := range []string{"exists", "forall"} {
		for _, pair := range []string{"|z", "|1", "|:k", "|()", "|(z)", "|(z S S)", "|((z) S)", "|(z (S))", "|((z S))", "|(z ())", "|(() S)", "|(zz zz zz)"} {
			// It is no list of two words; ahead of the pairs behind it, and of the kid.
			neither(t, "("+q+" ("+pair+") zz)", api.ErrForm)
			neither(t, "("+q+" ((w S) "+pair+" (w S)) zz)", api.ErrForm)
		}
		for _, name := range append(words(), "true", "false", "1", "0.5", ":k") {
			neither(t, "("+q+" ((|"+name+" S)) zz)", api.ErrForm)
			neither(t, "("+q+" ((w S) (|"+name+" Foo) (w S)) zz)", api.ErrForm)
		}
		for _, sort := range []string{"Foo", "real", "int", "Bool", "x", "z", "true", "1", "1.5", ":k", "INT"} {
			neither(t, "("+q+" ((z |"+sort+")) zz)", api.ErrForm)
			// Ahead of a name that was there already.
			neither(t, "("+q+" ((z S) (z |"+sort+")) zz)", api.ErrForm)
		}
		for _, in := range logics() {
			other := read.Sort(1 - in)
			refuses(t, in, "("+q+" ((z |"+other+")) zz)", xy(), api.ErrSort)
			refuses(t, in, "("+q+" ((w S) (z |"+other+") (w S)) zz)", xy(), api.ErrSort)
			refuses(t, in, "("+q+" ((z S) (z |"+other+")) zz)", xy(), api.ErrSort)
			refuses(t, in, "("+q+" ((z |"+other+") (z Foo)) zz)", xy(), api.ErrSort)
		}
		neither(t, "("+q+" ((z S) (|z S)) zz)", api.ErrTwice)
		neither(t, "("+q+" ((z S) (w S) (|z S) (w S) 1) zz)", api.ErrTwice)
		neither(t, "("+q+" ((x S) (y S) (|x S)) true)", api.ErrTwice)
	}
	for _, pair := range []string{"|z", "|1", "|:k", "|()", "|(z)", "|(z 1 1)", "|((z) 1 1)", "|(zz zz zz)"} {
		neither(t, "(let ("+pair+") zz)", api.ErrForm)
		neither(t, "(let ((w 1) "+pair+" (w zz)) zz)", api.ErrForm)
	}
	for _, name := range append(words(), "true", "false", "1", "0.5", ":k", "()", "(z)", "(z 1)") {
		neither(t, "(let ((|"+name+" 1)) zz)", api.ErrForm)
		neither(t, "(let ((w 1) (|"+name+" zz) (w 1)) zz)", api.ErrForm)
	}
	neither(t, "(let ((z 1) (|z 2)) zz)", api.ErrTwice)
	neither(t, "(let ((z 1) (w true) (|z zz)) zz)", api.ErrTwice)
	neither(t, "(let ((x y) (|x y)) true)", api.ErrTwice)
	// What a pair's second piece has is ahead of the pair behind it.
	neither(t, "(let ((z |zz) (z 1)) true)", api.ErrName)
	neither(t, "(let ((z |zz) w) true)", api.ErrName)
	neither(t, "(let ((z |(* x y)) (1 1)) true)", api.ErrLinear)
	neither(t, "(let ((z |(+ 1)) (1 1)) true)", api.ErrForm)
	// It may be a formula, or a term.
	both(t, "(let ((z true) (w 1)) (and z (= w 0)))", and(yes(), eq(1)))
}

func TestErrLinear(t *testing.T) {
	for _, s := range []string{
		"|(* x y)", "|(* x x)", "|(* (+ x 1) (- y 1))", "|(* (* 2 x) y)", "|(* (ite true x 1) y)", "|(* y (ite true 1 x))", "|(* (ite true 1 x) (ite true 2 y))", "|(* (ite true x 1) (ite true 2 y))",
		"|(* (ite true 1 (ite false 2 x)) y)", "|(* (- x y) (- y x))", "(let ((a x)) |(* a y))", "(let ((a (ite true x 1))) |(* a a))",
	} {
		neither(t, s, api.ErrLinear)
		neither(t, "(= 0 "+s+")", api.ErrLinear)
	}
	for _, s := range []string{
		"|(/ x 2)", "|(/ 2 x)", "|(/ x x)", "|(/ x y)", "|(/ 1 0)", "|(/ 0 0)", "|(/ 1 0.0)", "|(/ 1 (- 1 1))", "|(/ 1 (- x x))", "|(/ x 0)", "|(/ (+ x 1) 2)",
		"|(/ 1 (ite true 1 0))", "|(/ 1 (ite true 0 1))", "|(/ (ite true x 1) 2)", "|(/ (ite true 1 x) 2)", "|(/ 1 (ite true (ite true 2 0) 1))", "|(/ 2 (ite true 1 x))", "(ite true 1 |(/ 1 0))", "(ite true |(/ 1 0) 1)",
	} {
		refuses(t, api.Real, s, xy(), api.ErrLinear)
		refuses(t, api.Real, "(= 0 "+s+")", xy(), api.ErrLinear)
	}
	// Also where it is let, and not put anywhere.
	neither(t, "(let ((a |(* x y))) true)", api.ErrLinear)
	// A variable that goes is none.
	is(t, api.Real, "(= x (/ (- x x) 2))", xy(), eq(0, 0, 1))
	is(t, api.Real, "(= x (/ 1 (+ (- x x) 2)))", xy(), eq(-1, 0, 2))
}

// times is a text so many times.
func times(s string, many int) string { return strings.Repeat(s, many) }

// within is a text within so many lists with a word ahead.
func within(word, s string, many int) string {
	return times("("+word+" ", many) + s + times(")", many)
}

// mark puts the mark ahead of the so manieth list of a text that begins with some.
func mark(s string, lists int) string {
	at := 0
	for range lists {
		at += 1 + strings.Index(s[at+1:], "(")
	}
	return s[:at] + "|" + s[at:]
}

func TestMostNodes(t *testing.T) {
	read := func(s string, size int) {
		t.Helper()
		for _, in := range logics() {
			equal(t, logic.Size(reads(t, in, s, xy())), size, short(s))
		}
	}
	for _, word := range []string{"and", "or"} {
		read("("+word+times(" true", mostNodes-1)+")", mostNodes)
		neither(t, "|("+word+times(" true", mostNodes)+")", api.ErrTooLarge)
		neither(t, "|("+word+times(" true", mostNodes+99)+")", api.ErrTooLarge)
		// At the first list that has too many, of those within one another the innermost one.
		neither(t, "(not (and true |("+word+times(" true", mostNodes)+") zz))", api.ErrTooLarge)
		neither(t, "|(not ("+word+times(" true", mostNodes-1)+"))", api.ErrTooLarge)
		neither(t, "|(and ("+word+times(" true", mostNodes/2)+") ("+word+times(" true", mostNodes/2-2)+"))", api.ErrTooLarge)
		read("(and ("+word+times(" true", mostNodes/2)+") ("+word+times(" true", mostNodes/2-3)+"))", mostNodes)
		// What a piece has is ahead of it.
		neither(t, "("+word+times(" true", mostNodes)+" |zz)", api.ErrName)
		neither(t, "("+word+times(" true", mostNodes)+" |1)", api.ErrSort)
	}
	ands := func(nodes int) string { return "(and" + times(" true", nodes-1) + ")" }
	neither(t, "|(exists ((z S)) "+ands(mostNodes)+")", api.ErrTooLarge)
	read("(exists ((z S)) "+ands(mostNodes-1)+")", mostNodes)
	// What is told of => has an Or, and a Not, and an And, if there are several.
	read("(=> "+ands(1000)+" "+ands(mostNodes-1002)+")", mostNodes)
	neither(t, "|(=> "+ands(1000)+" "+ands(mostNodes-1001)+")", api.ErrTooLarge)
	read("(=> true "+ands(1000)+" "+ands(mostNodes-1004)+")", mostNodes)
	neither(t, "|(=> true "+ands(1000)+" "+ands(mostNodes-1003)+")", api.ErrTooLarge)
	// An ite has what it asks twice, and an Or, two Ands, a Not.
	for _, c := range [][3]int{{1, 1, mostNodes - 7}, {2045, 1, 1}, {1000, 1000, mostNodes - 3004}, {500, mostNodes - 1005, 1}} {
		f, g, h := ands(c[0]), ands(c[1]), ands(c[2])
		read("(ite "+f+" "+g+" "+h+")", mostNodes)
		neither(t, "|(ite "+f+" "+ands(c[1]+1)+" "+h+")", api.ErrTooLarge)
		neither(t, "|(ite "+f+" "+g+" "+ands(c[2]+1)+")", api.ErrTooLarge)
		neither(t, "|(ite "+ands(c[0]+1)+" "+g+" "+h+")", api.ErrTooLarge)
	}
	// So has an atom: here of one ite, then of two.
	read("(= (ite "+ands(2045)+" 1 2) 0)", mostNodes)
	neither(t, "|(= (ite "+ands(2046)+" 1 2) 0)", api.ErrTooLarge)
	neither(t, "(and |(= (ite "+ands(2046)+" 1 2) 0) zz)", api.ErrTooLarge)
	read("(= (ite "+ands(2033)+" 1 2) (ite true 3 4))", 4+2*2033+2*(4+2*1+2))
	neither(t, "|(= (ite "+ands(1000)+" 1 2) (ite "+ands(700)+" 3 4))", api.ErrTooLarge)
	read("(= (ite "+ands(1000)+" 1 2) (ite "+ands(516)+" 3 4))", 4+2*1000+2*(4+2*516+2))
	// Where what was let stands many times, it counts as often.
	read("(let ((a "+ands(1000)+")) (and a a a a"+times(" true", 95)+"))", mostNodes)
	neither(t, "(let ((a "+ands(1000)+")) |(and a a a a"+times(" true", 96)+"))", api.ErrTooLarge)
	doubled := "true"
	for range 11 {
		doubled = "(let ((a " + doubled + ")) (and a a))"
	}
	read(doubled, mostNodes-1)
	neither(t, "(let ((a "+doubled+")) |(and a a))", api.ErrTooLarge)
	read("(let ((a "+doubled+")) (not a))", mostNodes)
	// What was let, and does not stand anywhere, does not count.
	read("(let ((a "+ands(mostNodes)+") (b "+ands(mostNodes)+")) true)", 1)
	read("(let ((a "+ands(mostNodes)+")) a)", mostNodes)
}

func TestMostDeep(t *testing.T) {
	read := func(s string, deep int) {
		t.Helper()
		for _, in := range logics() {
			equal(t, logic.Depth(reads(t, in, s, xy())), deep, short(s))
		}
	}
	for _, word := range []string{"not", "and", "or", "and true", "exists ((z S))", "forall ((z S) (w S))"} {
		read(within(word, "true", mostDepth-1), mostDepth)
		read(within(word, "(= x 0)", mostDepth-1), mostDepth)
		neither(t, "|"+within(word, "true", mostDepth), api.ErrTooLarge)
		neither(t, "|"+within(word, "(= x 0)", mostDepth), api.ErrTooLarge)
	}
	for _, word := range []string{"not", "and", "or"} {
		// What stands within is ahead of it.
		neither(t, within(word, "|zz", mostDepth+9), api.ErrName)
		// Of those within one another the innermost one.
		neither(t, mark(within(word, "true", mostDepth+1), 1), api.ErrTooLarge)
		neither(t, mark(within(word, "true", mostDepth+9), 9), api.ErrTooLarge)
	}
	nots := func(deep int) string { return within("not", "true", deep-1) }
	read("(=> "+nots(mostDepth-2)+" true)", mostDepth)
	neither(t, "|(=> "+nots(mostDepth-1)+" true)", api.ErrTooLarge)
	read("(=> true "+nots(mostDepth-1)+")", mostDepth)
	neither(t, "|(=> true "+nots(mostDepth)+")", api.ErrTooLarge)
	read("(=> "+nots(mostDepth-3)+" true true)", mostDepth)
	neither(t, "|(=> "+nots(mostDepth-2)+" true true)", api.ErrTooLarge)
	read("(=> true true "+nots(mostDepth-1)+")", mostDepth)
	read("(ite "+nots(mostDepth-3)+" true true)", mostDepth)
	neither(t, "|(ite "+nots(mostDepth-2)+" true true)", api.ErrTooLarge)
	read("(ite true "+nots(mostDepth-2)+" true)", mostDepth)
	neither(t, "|(ite true "+nots(mostDepth-1)+" true)", api.ErrTooLarge)
	read("(ite true true "+nots(mostDepth-2)+")", mostDepth)
	neither(t, "|(ite true true "+nots(mostDepth-1)+")", api.ErrTooLarge)
	read("(= (ite "+nots(mostDepth-3)+" 1 2) 0)", mostDepth)
	neither(t, "|(= (ite "+nots(mostDepth-2)+" 1 2) 0)", api.ErrTooLarge)
	read("(= (ite true 1 (ite "+nots(mostDepth-5)+" 1 2)) 0)", mostDepth)
	neither(t, "|(= (ite true 1 (ite "+nots(mostDepth-4)+" 1 2)) 0)", api.ErrTooLarge)
	read("(= (ite true 1 2) (ite "+nots(mostDepth-5)+" 1 2))", mostDepth)
	neither(t, "|(= (ite true 1 2) (ite "+nots(mostDepth-4)+" 1 2))", api.ErrTooLarge)
	// A chain of ites, each of which is two deep.
	chain := func(many int) string { return times("(ite (= x 0) 1 ", many) + "2" + times(")", many) }
	read("(= "+chain(31)+" 0)", 1+2+2*30+1)
	neither(t, "|(= "+chain(32)+" 0)", api.ErrTooLarge)
	// Terms, and lets, may be as deep as a text.
	both(t, "(= "+within("-", "x", 5000)+" 0)", eq(0, 0, 1))
	both(t, times("(let ((a true)) ", 3000)+"a"+times(")", 3000), yes())
	deep := node{Kind: lex.Symbol, Text: "x"}
	for range 1 << 16 {
		deep = node{Kids: []node{{Kind: lex.Symbol, Text: "-"}, deep}}
	}
	for _, in := range logics() {
		n := node{Kids: []node{{Kind: lex.Symbol, Text: "="}, deep, {Kind: lex.Numeral, Text: "0"}}}
		if f := readNode(t, in, n, xy(), "a deep term"); !logic.Same(f, eq(0, 0, 1)) {
			t.Errorf("a deep term: %s", spell(f))
		}
	}
}

func TestMostCases(t *testing.T) {
	// sum has 2 cases so many times, or 3.
	sum := func(twos, threes int) string {
		return "(+ 1" + times(" (ite (= x 0) 1 2)", twos) + times(" (ite (= x 0) 1 (ite (= y 0) 2 x))", threes) + ")"
	}
	let := func(s string) string { return "(let ((a " + s + ")) true)" }
	both(t, let(sum(12, 0)), yes())
	neither(t, let("|"+sum(13, 0)), api.ErrTooLarge)
	both(t, let(sum(3, 5)), yes())
	neither(t, let("|"+sum(0, 8)), api.ErrTooLarge)
	neither(t, let("|"+sum(3000, 0)), api.ErrTooLarge)
	both(t, let("(ite true "+sum(11, 0)+" "+sum(11, 0)+")"), yes())
	both(t, let("(ite true "+sum(11, 0)+" (ite true "+sum(10, 0)+" (- "+sum(10, 0)+")))"), yes())
	neither(t, let("|(ite true "+sum(12, 0)+" 1)"), api.ErrTooLarge)
	neither(t, let("|(ite true 1 "+sum(12, 0)+")"), api.ErrTooLarge)
	neither(t, let("(ite true 1 |(ite true 1 "+sum(12, 0)+"))"), api.ErrTooLarge)
	both(t, let("(- "+sum(12, 0)+")"), yes())
	both(t, let("(- "+sum(6, 0)+" "+sum(6, 0)+")"), yes())
	neither(t, let("|(- "+sum(6, 0)+" "+sum(7, 0)+")"), api.ErrTooLarge)
	both(t, let("(* 2 "+sum(12, 0)+")"), yes())
	both(t, let("(* "+sum(6, 0)+" "+sum(6, 0)+")"), yes())
	// Too many cases are ahead of what is not linear; what a piece has is ahead of both.
	neither(t, let("|(* "+sum(0, 4)+" "+sum(0, 4)+")"), api.ErrTooLarge)
	neither(t, let("|(* "+sum(0, 3)+" "+sum(0, 4)+")"), api.ErrLinear)
	neither(t, let("|(* x (+ x "+sum(12, 0)+"))"), api.ErrLinear)
	neither(t, let("(* "+sum(0, 4)+" (+ |zz "+sum(0, 4)+"))"), api.ErrName)
	neither(t, let("(+ "+sum(6, 0)+" "+sum(7, 0)+" |true)"), api.ErrSort)
	refuses(t, api.Real, let("|(/ "+sum(6, 0)+" "+sum(7, 0)+")"), xy(), api.ErrTooLarge)
	refuses(t, api.Real, let("|(/ 0 "+sum(0, 7)+")"), xy(), api.ErrLinear)
	is(t, api.Real, let("(/ "+sum(6, 0)+" "+sum(6, 0)+")"), xy(), yes())
	// An atom of so many has more nodes than may be.
	neither(t, "|(= "+sum(12, 0)+" 0)", api.ErrTooLarge)
	neither(t, "|(= "+sum(7, 0)+" "+sum(6, 0)+")", api.ErrTooLarge)
	refuses(t, api.Whole, "|((_ divisible 2) "+sum(10, 0)+")", xy(), api.ErrTooLarge)
	for _, in := range logics() {
		// 2^k cases have 2^k - 1 ites, each with 4 nodes, and what it asks twice.
		f := reads(t, in, "(= "+sum(9, 0)+" 0)", xy())
		equal(t, logic.Size(f), 512+511*6, "512 cases")
	}
}

func TestMostScopes(t *testing.T) {
	for _, in := range logics() {
		tab := xy()
		for range mostDepth - 1 {
			opened(tab, "w")
		}
		was := tab.Copy()
		is(t, in, "(exists ((z S)) (= z w))", tab, exists(eq(0, 64, -1, 65, 1), 65))
		// One within the other is one more than there may be: that is ahead of what stands in it, and behind its pairs.
		refuses(t, in, "(exists ((z S)) |(exists ((z S)) zz))", tab, api.ErrTooLarge)
		refuses(t, in, "(exists ((z S)) (and (exists ((z S) (|z S)) zz)))", tab, api.ErrTwice)
		is(t, in, "(and (exists ((z S)) true) (exists ((z S)) true))", tab, and(exists(yes(), 68), exists(yes(), 69)))
		stays(t, tab.Copy(), was.Copy(), 5, "scopes")
		opened(tab, "w")
		refuses(t, in, "|(exists ((z S)) zz)", tab, api.ErrTooLarge)
		refuses(t, in, "(not |(forall ((z S) (w S)) true))", tab, api.ErrTooLarge)
		is(t, in, "(let ((z w)) (= z 0))", tab, eq(0, 70, 1))
	}
	// As many quantifiers as there may be scopes are a formula that is too deep; one more is refused ahead of it.
	for _, word := range []string{"exists ((z S))", "forall ((z S) (w S))"} {
		neither(t, "|"+within(word, "true", mostDepth), api.ErrTooLarge)
		deeper := "|(" + word + " zz)"
		neither(t, times("("+word+" ", mostDepth)+deeper+times(")", mostDepth), api.ErrTooLarge)
	}
}

func TestMostVars(t *testing.T) {
	// All but three variables are given out, by a scope that is shut.
	base := declared("x")
	opened(base, numbered("n", mostVars-4)...)
	base.Close()
	for _, in := range logics() {
		tab := base.Copy()
		last := mostVars - 1
		refuses(t, in, "|(exists ((a S) (b S) (c S) (d S)) zz)", tab, api.ErrTooLarge)
		equal(t, tab.Next(), mostVars-3, "Next, behind what is refused")
		is(t, in, "(exists ((a S)) (= a x))", tab, exists(eq(0, 0, -1, last-2, 1), last-2))
		refuses(t, in, "(exists ((a S)) |(forall ((b S) (c S)) zz))", tab, api.ErrTooLarge)
		equal(t, tab.Next(), mostVars-1, "Next")
		is(t, in, "(exists ((a S)) (= a x))", tab, exists(eq(0, 0, -1, last, 1), last))
		refuses(t, in, "|(exists ((a S)) zz)", tab, api.ErrTooLarge)
		is(t, in, "(= x 0)", tab, eq(0, 0, 1))
	}
	// Many names at once.
	l := numbered("n", 3000)
	pairs := "(" + strings.Join(l, " S) (") + " S)"
	for _, in := range logics() {
		f := reads(t, in, "(exists ("+pairs+") (= (+ n2999 n7) x))", xy())
		equal(t, len(f.Vars), 3000, "Vars")
		if want := eq(0, 0, -1, 9, 1, 3001, 1); len(f.Kids) != 1 || !logic.Same(f.Kids[0], want) {
			t.Errorf("of many names: %s", spell(f))
		}
		refuses(t, in, "(exists ("+pairs+" (|n1500 S)) true)", xy(), api.ErrTwice)
	}
}

// power is 10, so many times.
func power(k int) *big.Int { return new(big.Int).Exp(big.NewInt(10), big.NewInt(int64(k)), nil) }

// longest is the greatest natural of so many limbs.
func longest(many int) *big.Int {
	n := new(big.Int).Lsh(big.NewInt(1), uint(limbBits*many))
	return n.Sub(n, big.NewInt(1))
}

func TestP5LongNumerals(t *testing.T) {
	for _, digits := range []int{1, 9, 10, 20, 1000, 5000, 30000} {
		s := times("7", digits)
		n, _ := new(big.Int).SetString(s, 10)
		minus := new(big.Int).Neg(n)
		both(t, "(= x "+s+")", leaf(api.Atom{Kind: api.Eq, Term: api.Term{Parts: linear(0, 0, 1).Parts, Add: limbs(minus)}}))
		both(t, "(= (* (- "+s+") x) 0)", leaf(api.Atom{Kind: api.Eq, Term: api.Term{Parts: []api.Part{{Var: 0, Coef: limbs(minus)}}}}))
		is(t, api.Real, "(= x "+s+"."+s+")", xy(), func() formula {
			whole, _ := new(big.Int).SetString(s+s, 10)
			x := new(big.Rat).SetFrac(whole, power(digits))
			return leaf(api.Atom{Kind: api.Eq, Term: row{0: big.NewRat(1, 1), -1: x.Neg(x)}.whole()})
		}())
		for _, in := range logics() {
			f := reads(t, in, "(<= (* "+s+" x) "+s+")", xy())
			text := shown(t, in, f, xy())
			equal(t, text, "(<= (+ (* "+s+" x) (- "+s+")) 0)", digits, " digits, shown")
			is(t, in, text, xy(), f)
		}
	}
}

// equation is the node that says of x that it is a number.
func equation(kind uint8, text string) node {
	return node{At: 3, Kids: []node{{Kind: lex.Symbol, Text: "=", At: 4}, {Kind: lex.Symbol, Text: "x", At: 6}, {Kind: kind, Text: text, At: 8}}}
}

func TestLongestNumerals(t *testing.T) {
	// Beside its own limbs, a numeral has the one of 1.
	most := longest(mostLimbs - 1)
	text := most.String()
	divisible := func(text string) node {
		n := equation(lex.Numeral, text)
		n.Kids = []node{{At: 4, Kids: []node{{Kind: lex.Symbol, Text: "_"}, {Kind: lex.Symbol, Text: "divisible"}, n.Kids[2]}}, n.Kids[1]}
		return n
	}
	for _, in := range logics() {
		f := readNode(t, in, equation(lex.Numeral, text), xy(), "the longest numeral")
		equal(t, number(f.Atom.Term.Add).Cmp(new(big.Int).Neg(most)), 0, "the longest numeral, read")
		more := new(big.Int).Add(most, big.NewInt(1)).String()
		refusesNode(t, in, equation(lex.Numeral, more), xy(), api.ErrTooLarge, 8, "one more")
		worse := equation(lex.Numeral, more)
		worse.Kids = append(worse.Kids[:2], worse.Kids[2], worse.Kids[2])
		refusesNode(t, in, worse, xy(), api.ErrForm, 3, "one more, of three")
		n := divisible(more)
		n.Kids[1].Text = "zz"
		if in == api.Whole {
			refusesNode(t, in, n, xy(), api.ErrTooLarge, 8, "one more, divisible")
			f := readNode(t, in, divisible(text), xy(), "the longest divisor")
			equal(t, number(f.Atom.Mod).Cmp(most), 0, "the longest divisor, read")
		} else {
			refusesNode(t, in, n, xy(), api.ErrSort, 3, "one more, divisible")
		}
	}
}

func TestLongestDecimals(t *testing.T) {
	// 1 has one limb; the power of ten has all others, and one digit more one limb more.
	digits := len(longest(mostLimbs-1).String()) - 1
	n := "0." + times("0", digits-1) + "1"
	if _, e := rat.Decimal(n); e != api.OK {
		t.Fatal("no decimal:", e)
	}
	f := readNode(t, api.Real, equation(lex.Decimal, n), xy(), "the longest decimal")
	want := row{0: big.NewRat(1, 1), -1: new(big.Rat).SetFrac(big.NewInt(-1), power(digits))}.whole()
	if !logic.Same(f, leaf(api.Atom{Kind: api.Eq, Term: want})) {
		t.Error("the longest decimal:", spell(f))
	}
	refusesNode(t, api.Real, equation(lex.Decimal, n+"1"), xy(), api.ErrTooLarge, 8, "one more place")
	refusesNode(t, api.Whole, equation(lex.Decimal, n+"1"), xy(), api.ErrSort, 8, "one more place")
}

func TestTooLong(t *testing.T) {
	numeral := times("9", 20000)
	first, _ := rat.Decimal(numeral)
	// Squares of squares, by rat's product: the fifth one would be too long.
	l := []api.Rat{first}
	for range 5 {
		last := l[len(l)-1]
		l = append(l, rat.Mul(last, last))
	}
	equal(t, rat.Sign(l[4]), 1, "the fourth square")
	equal(t, rat.Sign(l[5]), 0, "the fifth square")
	lets := func(s string) string {
		for k := 5; k > 0; k-- {
			s = fmt.Sprintf("(let ((a%d (* a%d a%d))) %s)", k, k-1, k-1, s)
		}
		return "(let ((a0 " + numeral + ")) " + s + ")"
	}
	term := func(coef, add api.Rat) formula {
		t := api.Term{Add: add.Num}
		if rat.Sign(coef) != 0 {
			t.Parts = []api.Part{{Var: 0, Coef: coef.Num}}
		}
		return leaf(api.Atom{Kind: api.Eq, Term: t})
	}
	none := rat.Int(0)
	var texts []string
	var want []formula
	for k, a := range l {
		says := func(text string, coef, add api.Rat) {
			texts = append(texts, strings.ReplaceAll("(= "+text+" 0)", "A", "a"+strconv.Itoa(k)))
			want = append(want, term(coef, add))
		}
		says("A", none, a)
		says("(* A x)", a, none)
		says("(- (* x A))", rat.Neg(a), none)
		says("(+ A A)", none, rat.Add(a, a))
		says("(+ (* x A) (* A x))", rat.Add(a, a), none)
		says("(+ A (- x x))", none, a)
		says("(- x (- A A))", rat.Int(1), none)
	}
	both(t, lets("(and "+strings.Join(texts, " ")+")"), and(want...))
	// What has come to be 0 is 0: nothing goes by it any more, and its variable is gone.
	neither(t, lets("(= |(* x x) 0)"), api.ErrLinear)
	both(t, lets("(= (* (* a5 x) x) 0)"), term(none, none))
	refuses(t, api.Real, lets("(= |(/ 1 a5) 0)"), xy(), api.ErrLinear)
	// Likewise quotients.
	is(t, api.Real, lets("(= (/ a3 a2) 0)"), xy(), term(none, l[2]))
	is(t, api.Real, lets("(= (+ x (/ a4 (/ 1 a4)) 1) 0)"), xy(), term(rat.Int(1), rat.Int(1)))
	is(t, api.Real, lets("(= (* a4 (/ 1 a4)) x)"), xy(), term(rat.Int(-1), none))
}

func TestLongMultiples(t *testing.T) {
	// By the least number all become whole, none of which is too long; a quotient, and that number, may be too long together.
	numeral := times("9", 20000)
	n, _ := rat.Decimal(numeral)
	var l []api.Rat
	for range 5 {
		l = append(l, n)
		n = rat.Mul(n, n)
	}
	long := number(l[4].Num)
	s := "(let ((a " + numeral + ")) (let ((b (* a a))) (let ((c (* b b))) (let ((d (* c c))) (let ((e (/ 1 (* d d)))) %s)))))"
	is(t, api.Real, fmt.Sprintf(s, "(= (* e x) 1)"), xy(), leaf(api.Atom{Kind: api.Eq, Term: api.Term{Parts: linear(0, 0, 1).Parts, Add: limbs(new(big.Int).Neg(long))}}))
	is(t, api.Real, fmt.Sprintf(s, "(< (+ (* e x) e) (* 2 y))"), xy(), leaf(api.Atom{Kind: api.Lt, Term: api.Term{
		Parts: []api.Part{{Var: 0, Coef: whole.Of(1)}, {Var: 1, Coef: limbs(new(big.Int).Mul(big.NewInt(-2), long))}}, Add: whole.Of(1)}}))
	// What is too long by that number is 0.
	more, _ := rat.Decimal(times("9", 9000) + "7")
	add := rat.Mul(l[3], rat.Mul(l[3], rat.Mul(l[1], more)))
	equal(t, rat.Sign(add), 1, "a long number")
	equal(t, len(add.Num.Limbs)+len(l[4].Num.Limbs) > mostLong, true, "that is too long by the other one")
	is(t, api.Real, fmt.Sprintf(s, "(= (* e x) (* d (* d (* b "+times("9", 9000)+"7))))"), xy(), eq(0, 0, 1))
}

// spare is a node whose lists have more behind their ends, which is looked at afterwards.
func spare(n node, looks *[]func() bool) node {
	m := node{Kind: n.Kind, At: n.At, Text: n.Text}
	for _, kid := range n.Kids {
		m.Kids = append(m.Kids, spare(kid, looks))
	}
	if n.Kind == 0 {
		long := append(slices.Clone(m.Kids), node{Kind: 77, At: 77, Text: "behind"})
		m.Kids = long[:len(m.Kids)]
		*looks = append(*looks, func() bool {
			last := long[len(long)-1]
			return last.Kind == 77 && last.At == 77 && last.Text == "behind" && len(last.Kids) == 0
		})
	}
	return m
}

// sameNode tells whether two nodes are the same, also where they stand.
func sameNode(a, b node) bool {
	return a.Kind == b.Kind && a.At == b.At && a.Text == b.Text && slices.EqualFunc(a.Kids, b.Kids, sameNode)
}

// lists are all lists of numbers that a formula has, each to its room's end.
func lists(f *formula, ints *[][]int, words *[][]uint32, parts *[][]api.Part, kids *[][]formula) {
	*ints = append(*ints, f.Vars[:cap(f.Vars)])
	a := &f.Atom
	for k := range a.Term.Parts {
		l := a.Term.Parts[k].Coef.Limbs
		*words = append(*words, l[:cap(l)])
	}
	*words = append(*words, a.Term.Add.Limbs[:cap(a.Term.Add.Limbs)], a.Mod.Limbs[:cap(a.Mod.Limbs)])
	*parts = append(*parts, a.Term.Parts[:cap(a.Term.Parts)])
	*kids = append(*kids, f.Kids[:cap(f.Kids)])
	for k := range f.Kids {
		lists(&f.Kids[k], ints, words, parts, kids)
	}
}

// apart tells whether no two lists of a formula share memory. It writes all over it.
func apart(f *formula) bool {
	var ints [][]int
	var words [][]uint32
	var parts [][]api.Part
	var kids [][]formula
	lists(f, &ints, &words, &parts, &kids)
	is := alone(words, func(x *uint32, k int) { *x = uint32(k) }, func(x uint32, k int) bool { return x == uint32(k) })
	is = is && alone(ints, func(x *int, k int) { *x = k }, func(x, k int) bool { return x == k })
	is = is && alone(parts, func(x *api.Part, k int) { x.Var = k }, func(x api.Part, k int) bool { return x.Var == k })
	return is && alone(kids, func(x *formula, k int) { x.Vars = []int{k} }, func(x formula, k int) bool { return x.Vars[0] == k })
}

// alone tells whether lists share nothing: each place of them holds what was written there, when all are written.
func alone[T any](l [][]T, write func(x *T, k int), holds func(x T, k int) bool) bool {
	count := 0
	for _, m := range l {
		for k := range m {
			write(&m[k], count)
			count++
		}
	}
	count = 0
	for _, m := range l {
		for k := range m {
			if !holds(m[k], count) {
				return false
			}
			count++
		}
	}
	return true
}

func TestR1Stays(t *testing.T) {
	texts := []string{
		"(let ((a (and (= x 7) (<= (* 300 y) 12345678901234567890)))) (or a a (not a)))", "(exists ((z S) (w S)) (ite (= z w) (< z x) (< w y)))",
		"(let ((a (exists ((z S)) (= (* 5 z) x)))) (and a a))", "(let ((a (+ x 5 (* 70000 y)))) (and (= a 0) (= a a) (< (ite (= a 0) a x) (ite (= a 1) a 3))))", "(let ((a x)) (and (= a 0) (= a 0) (= 0 a)))",
		"(and (* x x))", "(exists ((z S) (z S)) true)", "(let ((a 1)) a)", "(= x zz)", "(forall ((z S)) (= z 12345678901234567890 x))", "(ite true (exists ((z S)) (= z 0)) 1)",
	}
	for _, in := range logics() {
		all := slices.Clone(texts)
		if in == api.Whole {
			all = append(all, "(let ((a ((_ divisible 12345678901234567890) (+ (* 7 x) 5)))) (and a a ((_ divisible 12345678901234567890) (ite a 1 x))))")
		} else {
			all = append(all, "(let ((a (+ (* 0.25 x) (/ 1 3)))) (and (= a 0.5) (< a (ite (= a 0) 0.1 y)) (= a a)))")
		}
		some(in, 1, 300, 3, func(w writer, s string) { all = append(all, s) })
		for _, s := range all {
			s = sorted(in, s)
			n := parsed(s)
			var looks []func() bool
			m := spare(n, &looks)
			tab := opened(xy(), "u")
			again := tab.Copy()
			f, at, e := read.Formula(m, in, tab)
			g, at2, e2 := read.Formula(n, in, again)
			equal(t, at, at2, "told again: ", short(s))
			equal(t, e, e2, "told again: ", short(s))
			equal(t, sameNode(m, n) && sameNode(n, parsed(s)), true, "the node stays: ", short(s))
			for _, look := range looks {
				equal(t, look(), true, "what is behind a list stays: ", short(s))
			}
			if e != api.OK {
				continue
			}
			equal(t, logic.Same(f, g), true, "told again: ", short(s))
			equal(t, apart(&f), true, "no memory is shared: ", short(s))
			// Nothing else is changed by what is written all over it.
			h, _, _ := read.Formula(n, in, opened(xy(), "u"))
			equal(t, logic.Same(g, h), true, "told again, behind what was written: ", short(s))
			equal(t, sameNode(n, parsed(s)), true, "the node stays: ", short(s))
		}
	}
}

func TestR1Wild(t *testing.T) {
	// Nodes of whatever words, in whatever lists: each call ends, and tells a formula that may be, or an error alone.
	pieces := append(words(), "true", "false", "x", "y", "z", "0", "1", "2", "0.5", ":k", "Foo", "x", "1", "2", "x", "true")
	r := rand.New(rand.NewSource(181))
	var wild func(deep int) node
	wild = func(deep int) node {
		if deep == 0 || r.Intn(3) == 0 {
			s := pick(r, pieces)
			return node{Kind: lex.Kind(s), Text: s, At: r.Intn(100)}
		}
		n := node{At: r.Intn(100)}
		if r.Intn(5) > 0 {
			s := pick(r, pieces[:20])
			n.Kids = append(n.Kids, node{Kind: lex.Kind(s), Text: s})
		}
		for range r.Intn(4) {
			n.Kids = append(n.Kids, wild(deep-1))
		}
		return n
	}
	count := map[api.Errno]int{}
	for range 100000 {
		n := wild(4)
		for _, in := range logics() {
			tab := xy()
			f, at, e := read.Formula(n, in, tab)
			count[e]++
			if e == api.OK {
				equal(t, logic.May(f) && at == 0, true, "wild: ", short(sexp.Show(n)))
			} else if f.Op != 0 || len(f.Kids) > 0 {
				t.Errorf("wild: %s: beside the error: %s", sexp.Show(n), spell(f))
			}
			stays(t, tab, xy(), tab.Next()-2, "wild")
		}
	}
	for _, e := range []api.Errno{api.OK, api.ErrForm, api.ErrSort, api.ErrName} {
		if count[e] < 100 {
			t.Error("of", e, "only", count[e])
		}
	}
}

func TestJustTooLong(t *testing.T) {
	// 2^(32 k) has k + 1 limbs. Of x by one, and another one, the second one times the first one is left.
	limb := func(k int) string { return new(big.Int).Lsh(big.NewInt(1), uint(limbBits*k)).String() }
	for _, most := range []bool{true, false} {
		first, second := 30000, mostLimbs-2-30000
		want := leaf(api.Atom{Kind: api.Eq, Term: api.Term{Parts: linear(0, 0, 1).Parts, Add: limbs(new(big.Int).Lsh(big.NewInt(-1), uint(limbBits*(first+second))))}})
		if !most {
			second++
			want = eq(0, 0, 1)
		}
		n := parsed("(= (* (/ 1 2) x) 3)")
		n.Kids[1].Kids[1].Kids[2].Text, n.Kids[2].Text = limb(first), limb(second)
		if f := readNode(t, api.Real, n, xy(), most); !logic.Same(f, want) {
			t.Errorf("%v: got %s", most, spell(f))
		}
	}
}
