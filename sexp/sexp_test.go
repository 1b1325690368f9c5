package sexp_test

import (
	"fmt"
	"math/rand"
	"reflect"
	"slices"
	"strings"
	"testing"
	"unsafe"

	"alidade/api"
	"alidade/budget"
	"alidade/lex"
	"alidade/sexp"
)

const (
	mostBytes = 1 << 16
	mostName  = 64
	mostDeep  = 1 << 16 // of parts that are nested in one another
)

// node and list are written often.
type node = sexp.Node

// word is a word that stands at a place.
func word(kind uint8, at int, text string) node { return node{Kind: kind, At: at, Text: text} }

// list is a list that stands at a place.
func list(at int, kids ...node) node { return node{At: at, Kids: kids} }

// sym is a symbol that stands at a place.
func sym(at int, text string) node { return word(lex.Symbol, at, text) }

// nested is a node within so many lists.
func nested(n node, lists int) node {
	for range lists {
		n = list(0, n)
	}
	return n
}

// brief tells a text briefly.
func brief(s string) string {
	if len(s) > 80 {
		return fmt.Sprintf("%q .. %q, %d bytes", s[:30], s[len(s)-30:], len(s))
	}
	return fmt.Sprintf("%q", s)
}

// is complains unless a call answered what is wanted.
func is[T comparable](t *testing.T, got, want T, what ...any) {
	t.Helper()
	if got != want {
		t.Errorf("%s: got %v, want %v", fmt.Sprint(what...), got, want)
	}
}

// meter is a meter that is so deep, and has nothing else.
func meter(t *testing.T, deep int) *budget.Meter {
	t.Helper()
	m, e := budget.New(api.Budget{Depth: deep})
	if e != api.OK {
		t.Fatalf("New of %d deep: %v", deep, e)
	}
	return m
}

// alike tells whether two lists of nodes are the same, also where they stand; none and nothing are the same.
func alike(a, b []node) bool {
	return slices.EqualFunc(a, b, func(x, y node) bool {
		return x.Kind == y.Kind && x.At == y.At && x.Text == y.Text && alike(x.Kids, y.Kids)
	})
}

// told are a text's nodes, with no error, by the widest meter.
func told(t *testing.T, text string) []node {
	t.Helper()
	l, at, e := sexp.Read(text, meter(t, mostBytes))
	if at != 0 || e != api.OK {
		t.Fatalf("Read of %s: at %d, %v", brief(text), at, e)
	}
	return l
}

// right complains unless a text's nodes are those wanted.
func right(t *testing.T, text string, want ...node) {
	t.Helper()
	if got := told(t, text); !alike(got, want) {
		t.Errorf("Read of %s: got %v, want %v", brief(text), got, want)
	}
}

// wrong complains unless a text has an error at a place, by a meter, and nothing else is told.
func wrong(t *testing.T, text string, m *budget.Meter, at int, e api.Errno) {
	t.Helper()
	l, gotAt, gotE := sexp.Read(text, m)
	if len(l) != 0 || gotAt != at || gotE != e {
		t.Errorf("Read of %s: got %d nodes, at %d, %v, want none, at %d, %v", brief(text), len(l), gotAt, gotE, at, e)
	}
}

// deepest is how deep a text's deepest node is.
func deepest(l []node) int {
	most := 0
	for _, n := range l {
		most = max(most, sexp.Depth(n))
	}
	return most
}

// model are a text's nodes, and how deep the deepest list is that begins with no refusal, in another way than by a stack: where a list ends is looked for anew for each of them.
func model(text string, deep int) (l []node, most, at int, e api.Errno) {
	words, at, e := lex.Words(text)
	if e != api.OK {
		return nil, 0, at, e
	}
	in := 0
	for _, w := range words {
		switch {
		case w.Text == ")" && in == 0:
			return nil, most, w.At, api.ErrForm
		case w.Text == "(" && in == deep:
			return nil, most, w.At, api.ErrBudget
		case w.Text == ")":
			in--
		case w.Text == "(":
			in++
			most = max(most, in)
		}
	}
	if in > 0 {
		return nil, most, len(text), api.ErrForm
	}
	return within(words), most, 0, api.OK
}

// within are the nodes of words whose lists all begin and end.
func within(words []lex.Word) (l []node) {
	for k := 0; k < len(words); k++ {
		w := words[k]
		if w.Text != "(" {
			l = append(l, word(w.Kind, w.At, w.Text))
			continue
		}
		end, in := k, 1
		for in > 0 {
			end++
			switch words[end].Text {
			case "(":
				in++
			case ")":
				in--
			}
		}
		l = append(l, list(w.At, within(words[k+1:end])...))
		k = end
	}
	return l
}

// checked complains unless a text is read, by a meter so deep, as the model has it, and holds all that follows.
func checked(t *testing.T, text string, deep int) {
	t.Helper()
	m := meter(t, deep)
	l, at, e := sexp.Read(text, m)
	want, most, wantAt, wantE := model(text, deep)
	if !alike(l, want) || at != wantAt || e != wantE {
		t.Errorf("Read of %s, %d deep: got %v, at %d, %v, want %v, at %d, %v", brief(text), deep, l, at, e, want, wantAt, wantE)
		return
	}
	is(t, m.Spent(), api.Budget{Depth: most}, "what the meter was told by ", brief(text))
	if part, n, is := budget.Part(m.Why()); is != (e == api.ErrBudget) || is && (part != "depth" || n != deep) {
		t.Errorf("Read of %s: Why: got %q, %d, %v", brief(text), part, n, is)
	}
	if e != api.OK {
		return
	}
	is(t, deepest(l), most, "how deep ", brief(text), " is")
	var texts []string
	for _, n := range l {
		nodeRight(t, text, n)
		thereAndBack(t, n)
		texts = append(texts, sexp.Show(n))
	}
	shown := strings.Join(texts, " ")
	if again := told(t, shown); !slices.EqualFunc(l, again, sexp.Same) || !slices.EqualFunc(l, again, equal) {
		t.Errorf("%s is read as %v, and as it is shown, %s, as %v", brief(text), l, brief(shown), again)
	}
}

// equal tells whether two nodes are the same, where they stand aside, in another way than by Same.
func equal(a, b node) bool { return reflect.DeepEqual(moved(a, 0), moved(b, 0)) }

// moved is a node that stands elsewhere, with all that is in it, and no list of nothing.
func moved(n node, by int) node {
	n.At *= by
	n.At += by
	var kids []node
	for _, kid := range n.Kids {
		kids = append(kids, moved(kid, by))
	}
	n.Kids = kids
	return n
}

// nodeRight complains unless a node that was read may be, stands where its text has it, and is as large and as deep as its Kids make it (P13.4, P13.6).
func nodeRight(t *testing.T, text string, n node) {
	t.Helper()
	if !sexp.May(n) {
		t.Errorf("%s: %v may not be", brief(text), n)
	}
	size, depth := 1, 0
	if n.Kind == 0 {
		for _, kid := range n.Kids {
			nodeRight(t, text, kid)
			size += sexp.Size(kid)
			depth = max(depth, sexp.Depth(kid))
			if kid.At <= n.At {
				t.Errorf("%s: a Kid stands at %d, its list at %d", brief(text), kid.At, n.At)
			}
		}
		depth++
	}
	is(t, sexp.Size(n), size, brief(text), ": Size of ", n)
	is(t, sexp.Depth(n), depth, brief(text), ": Depth of ", n)
	if ahead := n.Text + strings.Repeat("(", 1-min(1, len(n.Text))); !strings.HasPrefix(text[n.At:], ahead) {
		t.Errorf("%s: %v does not stand there", brief(text), n)
	}
}

// thereAndBack complains unless what is shown of a node that may be is read as that one (P13.3).
func thereAndBack(t *testing.T, n node) {
	t.Helper()
	text := sexp.Show(n)
	if len(text) > mostBytes {
		wrong(t, text, meter(t, mostBytes), mostBytes, api.ErrTooLarge)
		return
	}
	l, at, e := sexp.Read(text, meter(t, sexp.Depth(n)))
	if len(l) != 1 || at != 0 || e != api.OK || !sexp.Same(l[0], n) || !equal(l[0], n) || l[0].At != 0 {
		t.Errorf("%s, shown, is read as %v, at %d, %v", brief(text), l, at, e)
		return
	}
	is(t, sexp.Show(l[0]), text, "what is shown, read, and shown again")
}

func TestExamples(t *testing.T) {
	l := told(t, "(a (1 2.5) :k) x")
	want := []node{list(0, sym(1, "a"), list(3, word(lex.Numeral, 4, "1"), word(lex.Decimal, 6, "2.5")), word(lex.Keyword, 11, ":k")), sym(15, "x")}
	if !alike(l, want) {
		t.Fatalf("got %v, want %v", l, want)
	}
	is(t, sexp.Show(l[0]), "(a (1 2.5) :k)", "Show")
	is(t, sexp.Size(l[0]), 6, "Size")
	is(t, sexp.Depth(l[0]), 2, "Depth")
	is(t, sexp.Head(l[0]), "a", "Head")
	wrong(t, "())", meter(t, 9), 2, api.ErrForm)
	wrong(t, "(()", meter(t, 9), 3, api.ErrForm)
	wrong(t, "((a))", meter(t, 1), 1, api.ErrBudget)
}

func TestP13_1Nothing(t *testing.T) {
	for _, text := range []string{"", " ", "\t\r\n ", ";", ";c", ";(", ";)\n", " ;((\n;))\r\n "} {
		right(t, text)
		for deep := range 3 {
			checked(t, text, deep)
		}
		m := meter(t, 0)
		is(t, m.Deep(1), api.ErrBudget, "Deep")
		if l, at, e := sexp.Read(text, m); len(l) != 0 || at != 0 || e != api.OK {
			t.Errorf("%q, by a meter that has refused: got %v, at %d, %v", text, l, at, e)
		}
	}
}

func TestP13_1Read(t *testing.T) {
	right(t, "x", sym(0, "x"))
	right(t, " 1 ;c", word(lex.Numeral, 1, "1"))
	right(t, "0.50", word(lex.Decimal, 0, "0.50"))
	right(t, ":order", word(lex.Keyword, 0, ":order"))
	right(t, "x y x", sym(0, "x"), sym(2, "y"), sym(4, "x"))
	right(t, "()", list(0))
	right(t, " ( ) ", list(1))
	right(t, "()()", list(0), list(2))
	right(t, "(())", list(0, list(1)))
	right(t, "(()())", list(0, list(1), list(3)))
	right(t, "(x)", list(0, sym(1, "x")))
	right(t, "((x))", list(0, list(1, sym(2, "x"))))
	right(t, "x()y", sym(0, "x"), list(1), sym(3, "y"))
	right(t, "(x)(y)z", list(0, sym(1, "x")), list(3, sym(4, "y")), sym(6, "z"))
	right(t, "((a)b(c))d", list(0, list(1, sym(2, "a")), sym(4, "b"), list(5, sym(6, "c"))), sym(9, "d"))
	right(t, "(a(b(c)b)a)", list(0, sym(1, "a"), list(2, sym(3, "b"), list(4, sym(5, "c")), sym(7, "b")), sym(9, "a")))
	right(t, "(1.0;)\n;(\n1 :a)", list(0, word(lex.Decimal, 1, "1.0"), word(lex.Numeral, 10, "1"), word(lex.Keyword, 12, ":a")))
	right(t, "(assert (<= (+ x 1) 2.5))", list(0, sym(1, "assert"), list(8, sym(9, "<="), list(12, sym(13, "+"), sym(15, "x"), word(lex.Numeral, 17, "1")), word(lex.Decimal, 20, "2.5"))))
	right(t, "(- 1)(-1)", list(0, sym(1, "-"), word(lex.Numeral, 3, "1")), list(5, sym(6, "-1")))
}

func TestP13_1TheMeter(t *testing.T) {
	for text, most := range map[string]int{"": 0, "x": 0, "x 1 :k": 0, "()": 1, "(x)": 1, "() () ()": 1, "(())": 2, "((a) (b))": 2, "() (()) ()": 2, "(((x) y) z)": 3, "a (b (c (d (e))))": 4} {
		m := meter(t, 9)
		if _, at, e := sexp.Read(text, m); at != 0 || e != api.OK {
			t.Errorf("%q: at %d, %v", text, at, e)
		}
		is(t, m.Spent(), api.Budget{Depth: most}, "what was told by ", text)
	}
	// Whatever was read ahead with a meter, a list that stands in none is 1 deep.
	m := meter(t, 2)
	for _, text := range []string{"(())", "()", "(()", "x", "(()())", "01", "(a (b) c)"} {
		sexp.Read(text, m)
		is(t, m.Spent(), api.Budget{Depth: 2}, "what was told by ", text, " and others")
	}
	wrong(t, "() ((()))", m, 5, api.ErrBudget)
	wrong(t, "()", m, 0, api.ErrBudget)
	// What is no text of words, or has no meter, is told no meter.
	m = meter(t, 9)
	wrong(t, "(()) 01", m, 5, api.ErrForm)
	wrong(t, strings.Repeat("()", mostBytes/2)+" ", m, mostBytes, api.ErrTooLarge)
	is(t, m.Spent(), api.Budget{}, "what was told by no words")
	// What was told ahead of an error stays told.
	wrong(t, "(()) () ) ((()))", m, 8, api.ErrForm)
	is(t, m.Spent(), api.Budget{Depth: 2}, "what was told ahead of a ) that ends no list")
	wrong(t, "(((", m, 3, api.ErrForm)
	is(t, m.Spent(), api.Budget{Depth: 3}, "what was told by lists that do not end")
}

func TestErrNil(t *testing.T) {
	for _, text := range []string{"", "x", "()", ")", "(", "(()", "01", "( 01", "x{", strings.Repeat(" ", mostBytes+1), strings.Repeat("(", mostBytes)} {
		wrong(t, text, nil, 0, api.ErrNil)
	}
}

func TestErrOfWords(t *testing.T) {
	for text, at := range map[string]int{
		"01": 0, "x{": 1, "(x {": 3, "(a:b)": 1, "((((1.": 4, ") 01": 2, ")) x :": 5, ")|": 1, "(() ) ) ((: (": 10, ") ; 01\n 1x": 8, "(((( \x00": 5,
		"(" + strings.Repeat("n", mostName+1) + ")": 1,
	} {
		for deep := range 5 {
			wrong(t, text, meter(t, deep), at, api.ErrForm)
			checked(t, text, deep)
		}
		refused := meter(t, 0)
		refused.Deep(1)
		wrong(t, text, refused, at, api.ErrForm)
	}
	for _, text := range []string{"(", ")", "()", "{", "(a) ", "01 "} {
		long := strings.Repeat(text, mostBytes/len(text)+1)
		for _, deep := range []int{0, 1, mostBytes} {
			wrong(t, long[:mostBytes+1], meter(t, deep), mostBytes, api.ErrTooLarge)
			wrong(t, long+")", meter(t, deep), mostBytes, api.ErrTooLarge)
		}
	}
}

func TestErrFormNoBegin(t *testing.T) {
	for text, at := range map[string]int{
		")": 0, " )": 1, "))": 0, ")(": 0, ")()": 0, ")x": 0, "x)": 1, "x y )": 4, "())": 2, "()) (": 2, "(x))": 3, "(())) ((": 4, "() x ) )": 5,
		";(\n)": 3, "(a (b) c) 1.5 :k )": 17, ") )": 0, "(a)(b))(c": 6,
	} {
		for deep := 2; deep < 5; deep++ {
			wrong(t, text, meter(t, deep), at, api.ErrForm)
			checked(t, text, deep)
		}
	}
	// It is told by a meter that has refused ahead, too, unless a list begins ahead of it.
	refused := meter(t, 0)
	refused.Deep(1)
	wrong(t, ")", refused, 0, api.ErrForm)
	wrong(t, "x ) (", refused, 2, api.ErrForm)
	wrong(t, "x ( ) )", refused, 2, api.ErrBudget)
}

func TestErrFormNoEnd(t *testing.T) {
	for _, text := range []string{"(", "((", "(((", "(x", "x (", "(()", "() (", "((x) y", "(a (b (c)", "( ", "(;)", "(\n;)\n", "(() ;c", "(1.5 :k\r\n"} {
		for deep := 3; deep < 5; deep++ {
			wrong(t, text, meter(t, deep), len(text), api.ErrForm)
			checked(t, text, deep)
		}
	}
}

func TestErrBudget(t *testing.T) {
	for _, x := range []struct {
		text     string
		deep, at int
	}{
		{"()", 0, 0}, {" x ()", 0, 3}, {"(", 0, 0}, {"(()", 0, 0}, {"())", 0, 0}, {"() )", 0, 0}, {"(())", 1, 1}, {"((", 1, 1}, {"( (", 1, 2}, {"(x (y))", 1, 3},
		{"() (a) (b (c))", 1, 10}, {"() (()) ((()))", 2, 10}, {"(((a))) )", 2, 2}, {"((((", 3, 3}, {"(()()(()((", 2, 6}, {";((\n((a))", 1, 5},
	} {
		m := meter(t, x.deep)
		wrong(t, x.text, m, x.at, api.ErrBudget)
		is(t, budget.Text(m.Why()), fmt.Sprintf("no depth left of %d", x.deep), brief(x.text))
		is(t, m.Spent(), api.Budget{Depth: x.deep}, brief(x.text))
		checked(t, x.text, x.deep)
	}
}

func TestErrBudgetAhead(t *testing.T) {
	b := api.Budget{Steps: 1, Rows: 1, Limbs: 1, Depth: 9}
	for part, refuse := range map[string]func(m *budget.Meter) api.Errno{
		"limbs": func(m *budget.Meter) api.Errno { return m.Pay(api.Atom{Mod: api.Int{Limbs: []uint32{1, 1}}}) },
		"rows":  func(m *budget.Meter) api.Errno { return m.Rows(2) },
		"depth": func(m *budget.Meter) api.Errno { return m.Deep(10) },
	} {
		m, e := budget.New(b)
		is(t, e, api.OK, "New")
		is(t, refuse(m), api.ErrBudget, part)
		for text, at := range map[string]int{"()": 0, "x ()": 2, "((x))": 0, "(": 0, "())": 0, " (a) )": 1} {
			wrong(t, text, m, at, api.ErrBudget)
		}
		wrong(t, ") ()", m, 0, api.ErrForm)
		wrong(t, "() 01", m, 3, api.ErrForm)
		if l, at, e := sexp.Read("x 1 :k", m); !alike(l, []node{sym(0, "x"), word(lex.Numeral, 2, "1"), word(lex.Keyword, 4, ":k")}) || at != 0 || e != api.OK {
			t.Errorf("words alone, by a meter that has refused: got %v, at %d, %v", l, at, e)
		}
		got, _, _ := budget.Part(m.Why())
		is(t, got, part, "what was refused first")
		is(t, m.Spent(), api.Budget{}, part)
	}
	// A meter that was not made by New has nothing of anything.
	wrong(t, "x ()", new(budget.Meter), 2, api.ErrBudget)
}

func TestP13_5Deep(t *testing.T) {
	var texts []string
	for deep := range 40 {
		texts = append(texts, strings.Repeat("(", deep)+strings.Repeat(")", deep), strings.Repeat("(a ", deep)+"1"+strings.Repeat(" :b)", deep), strings.Repeat("() (", deep)+"x"+strings.Repeat(")", deep))
	}
	for _, text := range texts {
		deep := deepest(told(t, text))
		for d := range deep + 3 {
			checked(t, text, d)
			l, at, e := sexp.Read(text, meter(t, d))
			switch {
			case d >= deep && (e != api.OK || deepest(l) != deep):
				t.Errorf("%s, %d deep, by %d: %v", brief(text), deep, d, e)
			case d < deep && (e != api.ErrBudget || text[at] != '('):
				t.Errorf("%s, %d deep, by %d: at %d, %v", brief(text), deep, d, at, e)
			}
		}
	}
}

func TestReadMost(t *testing.T) {
	const half = mostBytes / 2
	deep := strings.Repeat("(", half) + strings.Repeat(")", half)
	l := told(t, deep)
	is(t, len(l), 1, "how many nodes")
	is(t, sexp.Depth(l[0]), half, "Depth")
	is(t, sexp.Size(l[0]), half, "Size")
	is(t, sexp.Show(l[0]), deep, "Show")
	is(t, sexp.May(l[0]), true, "May")
	is(t, sexp.Same(l[0], told(t, deep)[0]), true, "Same")
	wrong(t, deep, meter(t, half-1), half-1, api.ErrBudget)
	if l, at, e := sexp.Read(deep, meter(t, half)); len(l) != 1 || at != 0 || e != api.OK {
		t.Errorf("just deep enough: %d nodes, at %d, %v", len(l), at, e)
	}
	wide := told(t, strings.Repeat("()", half))
	is(t, len(wide), half, "how many nodes")
	is(t, deepest(wide), 1, "how deep they are")
	for k, n := range wide {
		is(t, n.At, 2*k, "where it stands")
	}
	flat := told(t, "("+strings.Repeat("a ", half-1)+")")
	is(t, sexp.Size(flat[0]), half, "Size")
	is(t, len(flat[0].Kids), half-1, "how many Kids")
	long := "(" + strings.Repeat("9", mostBytes-2) + ")"
	right(t, long, list(0, word(lex.Numeral, 1, long[1:mostBytes-1])))
	opens := strings.Repeat("(", mostBytes)
	wrong(t, opens, meter(t, mostBytes), mostBytes, api.ErrForm)
	wrong(t, opens, meter(t, mostBytes-1), mostBytes-1, api.ErrBudget)
	wrong(t, opens, meter(t, 0), 0, api.ErrBudget)
	wrong(t, strings.Repeat(")", mostBytes), meter(t, mostBytes), 0, api.ErrForm)
	blank := strings.Repeat(" ", mostBytes-1)
	wrong(t, blank+")", meter(t, 0), mostBytes-1, api.ErrForm)
	wrong(t, blank+"(", meter(t, 1), mostBytes, api.ErrForm)
	wrong(t, blank+"(", meter(t, 0), mostBytes-1, api.ErrBudget)
}

// wordsThatMay are words of each kind, at the edges.
func wordsThatMay() []node {
	name := strings.Repeat("n", mostName)
	long := strings.Repeat("9", mostBytes)
	return []node{
		word(lex.Numeral, 0, "0"), word(lex.Numeral, 0, "10"), word(lex.Numeral, 0, long), word(lex.Decimal, 0, "0.0"), word(lex.Decimal, 0, "1.50"), word(lex.Decimal, 0, "0."+long),
		sym(0, "a"), sym(0, "<="), sym(0, "-1"), sym(0, ".5"), sym(0, name), word(lex.Keyword, 0, ":a"), word(lex.Keyword, 0, ":-"), word(lex.Keyword, 0, ":"+name),
	}
}

// wordsThatMayNot are what is no word, or a parenthesis.
func wordsThatMayNot() []node {
	l := []node{word(lex.Open, 0, "("), word(lex.Close, 0, ")"), word(lex.Open, 0, ""), word(lex.Close, 0, ""), word(lex.Open, 0, ")"), word(lex.Close, 0, "("), word(lex.Open, 0, "a"), word(7, 0, ""), word(7, 0, "a"), word(255, 0, "a")}
	texts := map[uint8][]string{
		lex.Numeral: {"1", "0"}, lex.Decimal: {"1.5", "0.0"}, lex.Symbol: {"a", "-1", ".5"}, lex.Keyword: {":a", ":-1"}, lex.Open: {"("}, lex.Close: {")"},
		0: {"", " ", "01", "1.", ":", "a:b", "a b", " a", "a ", "1 ", "()", "(a)", ")a(", "a;c", "a\n", "{", "1a", "\xff", strings.Repeat("n", mostName+1), ":" + strings.Repeat("n", mostName+1)},
	}
	for of, all := range texts {
		for _, text := range all {
			for kind := uint8(1); kind < 9; kind++ {
				if kind != of {
					l = append(l, word(kind, 0, text))
				}
			}
		}
	}
	for _, w := range wordsThatMay() {
		for _, kid := range []node{sym(0, "b"), list(0), w} {
			odd := w
			odd.Kids = []node{kid}
			l = append(l, odd)
		}
	}
	return l
}

// listsWithTexts are lists that may not be for their Text.
func listsWithTexts() []node {
	var l []node
	for _, text := range []string{"a", "1", "1.5", ":k", "(", ")", "()", " ", "(a)"} {
		l = append(l, node{Text: text}, node{Text: text, Kids: []node{}}, node{Text: text, Kids: []node{sym(0, text)}}, node{Text: text, Kids: []node{sym(0, "a"), list(0)}})
	}
	return l
}

func TestP13_1May(t *testing.T) {
	lists := []node{{}, list(0), {Kids: []node{}}, list(-5), list(1 << 40), list(0, list(0)), list(0, list(0), list(0))}
	for _, w := range wordsThatMay() {
		lists = append(lists, w, node{Kind: w.Kind, Text: w.Text, At: -7, Kids: []node{}}, list(3, w), list(0, w, w), list(0, list(0, w), sym(0, "a")), nested(w, 70))
	}
	for _, n := range lists {
		is(t, sexp.May(n), true, "May of ", brief(fmt.Sprint(n)))
	}
	for _, bad := range append(wordsThatMayNot(), listsWithTexts()...) {
		for _, n := range []node{
			bad, list(0, bad), list(0, bad, sym(0, "a")), list(0, sym(0, "a"), bad), list(0, list(0), bad, list(0)),
			nested(bad, 2), list(0, list(0, sym(0, "a")), list(0, list(0), list(0, sym(0, "a"), bad), sym(0, "b"))), nested(list(0, sym(0, "a"), bad), 70),
		} {
			is(t, sexp.May(n), false, "May of ", brief(fmt.Sprint(n)))
			is(t, sexp.Show(n), "", "Show of ", brief(fmt.Sprint(n)))
		}
	}
}

func TestP13_1Show(t *testing.T) {
	a, one, k := sym(0, "a"), word(lex.Numeral, 0, "1"), word(lex.Keyword, 0, ":k")
	for _, x := range []struct {
		n    node
		text string
	}{
		{node{}, "()"}, {a, "a"}, {one, "1"}, {k, ":k"}, {word(lex.Decimal, 0, "2.50"), "2.50"}, {list(0), "()"}, {node{Kids: []node{}}, "()"}, {list(0, a), "(a)"}, {list(0, list(0)), "(())"},
		{list(0, a, one, k), "(a 1 :k)"}, {list(0, list(0), list(0)), "(() ())"}, {list(0, list(0, a), one), "((a) 1)"}, {list(0, one, list(0, a)), "(1 (a))"},
		{list(9, sym(9, "<="), list(9, sym(9, "+"), sym(-9, "x"), one), word(lex.Decimal, 0, "2.5")), "(<= (+ x 1) 2.5)"}, {nested(a, 5), "(((((a)))))"},
	} {
		is(t, sexp.Show(x.n), x.text, "Show of ", x.n)
	}
	for _, w := range wordsThatMay() {
		is(t, sexp.Show(w), w.Text, "Show of ", brief(w.Text))
		is(t, sexp.Show(list(0, w, list(0, w))), "("+w.Text+" ("+w.Text+"))", "Show of lists of ", brief(w.Text))
	}
}

func TestP13_2Size(t *testing.T) {
	for text, want := range map[string][2]int{
		"a": {1, 0}, "1": {1, 0}, "1.5": {1, 0}, ":k": {1, 0}, "()": {1, 1}, "(a)": {2, 1}, "(a b)": {3, 1}, "(())": {2, 2}, "(() ())": {3, 2}, "(a (b) c)": {5, 2},
		"((a b) (c (d)))": {8, 3}, "((((a))) b)": {6, 4}, "(b (((a))))": {6, 4}, "(() (()) ((())) (()) ())": {10, 4},
	} {
		n := told(t, text)[0]
		is(t, sexp.Size(n), want[0], "Size of ", text)
		is(t, sexp.Depth(n), want[1], "Depth of ", text)
	}
	is(t, sexp.Size(node{}), 1, "Size of a list of nothing")
	is(t, sexp.Depth(node{}), 1, "Depth of a list of nothing")
	is(t, sexp.Depth(node{Kids: []node{}}), 1, "Depth of a list of nothing")
	wide := list(0, slices.Repeat([]node{list(0, sym(0, "a"))}, 50000)...)
	is(t, sexp.Size(wide), 100001, "Size of a wide list")
	is(t, sexp.Depth(wide), 2, "Depth of a wide list")
}

// different are nodes no two of which are the same.
func different() []node {
	a, b := sym(0, "a"), sym(0, "b")
	return []node{
		a, b, sym(0, "A"), word(lex.Numeral, 0, "1"), word(lex.Decimal, 0, "1.0"), word(lex.Decimal, 0, "1.00"), word(lex.Keyword, 0, ":a"), word(lex.Keyword, 0, ":b"),
		list(0), list(0, a), list(0, b), list(0, a, a), list(0, a, b), list(0, b, a), list(0, a, a, a), list(0, list(0)), list(0, list(0), list(0)), list(0, list(0, a)), list(0, list(0, b)),
		list(0, list(0, a), b), list(0, list(0, a, b)), list(0, list(0), list(0, a)), list(0, list(0, a), list(0)), list(0, list(0, list(0))), list(0, a, list(0)), list(0, list(0), a),
		// These may not be, but are told apart all the same.
		word(lex.Numeral, 0, "a"), word(lex.Symbol, 0, ""), word(7, 0, "a"), {Text: "a"}, {Text: "a", Kids: []node{a}}, {Kind: lex.Symbol, Text: "a", Kids: []node{a}}, list(0, word(lex.Numeral, 0, "a")),
	}
}

func TestP13_2Same(t *testing.T) {
	l := different()
	for k, a := range l {
		for m, b := range l {
			is(t, sexp.Same(a, b), k == m, a, " and ", b)
			is(t, sexp.Same(moved(a, 3), b), k == m, "elsewhere, ", a, " and ", b)
			is(t, sexp.Same(a, moved(b, -7)), k == m, a, " and, elsewhere, ", b)
			is(t, sexp.Same(nested(a, 30), nested(b, 30)), k == m, "deep, ", a, " and ", b)
			is(t, sexp.Same(list(0, b, a), list(9, b, moved(b, 2))), k == m, "in lists, ", a, " and ", b)
		}
	}
	is(t, sexp.Same(node{}, node{Kids: []node{}}), true, "none, and nothing")
	is(t, sexp.Same(node{Kids: []node{}}, node{}), true, "nothing, and none")
	is(t, sexp.Same(told(t, "(a (1 2.5))")[0], told(t, ";c\n ( a(1;)\n2.5 ) )")[0]), true, "parted otherwise")
	is(t, sexp.Same(nested(sym(0, "a"), 3), nested(sym(0, "a"), 4)), false, "one list more")
}

func TestP13_2Head(t *testing.T) {
	for text, want := range map[string]string{
		"(a)": "a", "(a b)": "a", "(<= x 1)": "<=", "(- 1)": "-", "(.5)": ".5", "(true)": "true", "(set-logic LIA)": "set-logic", "(a (b) c)": "a", "((_ divisible 2) x)": "", "(_ divisible 2)": "_",
		"a": "", "1": "", "1.5": "", ":k": "", "()": "", "(())": "", "(() a)": "", "((a))": "", "((a) a)": "", "(1)": "", "(1 a)": "", "(1.5 a)": "", "(:k a)": "", "(:a)": "",
	} {
		is(t, sexp.Head(told(t, text)[0]), want, "Head of ", text)
	}
	is(t, sexp.Head(node{}), "", "Head of a list of nothing")
	is(t, sexp.Head(node{Kids: []node{}}), "", "Head of a list of nothing")
	is(t, sexp.Head(node{Kind: lex.Symbol, Text: "b", Kids: []node{sym(0, "a")}}), "", "Head of a word, with Kids")
	name := strings.Repeat("n", mostName)
	is(t, sexp.Head(list(0, sym(0, name), sym(0, "a"))), name, "Head of a long name")
}

func TestDeepNodes(t *testing.T) {
	// With its word, it is nested as deep as anything may be.
	n, other := nested(sym(0, "a"), mostDeep-1), nested(sym(0, "b"), mostDeep-1)
	is(t, sexp.May(n), true, "May")
	is(t, sexp.Size(n), mostDeep, "Size")
	is(t, sexp.Depth(n), mostDeep-1, "Depth")
	is(t, sexp.Head(n), "", "Head")
	is(t, sexp.Same(n, moved(n, 1)), true, "Same")
	is(t, sexp.Same(n, other), false, "Same, of another one")
	text := strings.Repeat("(", mostDeep-1) + "a" + strings.Repeat(")", mostDeep-1)
	if sexp.Show(n) != text {
		t.Error("Show of a deep node is wrong")
	}
	wrong(t, text, meter(t, mostBytes), mostBytes, api.ErrTooLarge)
	bad := nested(sym(0, "01"), mostDeep-1)
	is(t, sexp.May(bad), false, "May, of a bad word deep within")
	is(t, sexp.Show(bad), "", "Show, of a bad word deep within")
}

// pick is one of a list.
func pick[T any](r *rand.Rand, l []T) T { return l[r.Intn(len(l))] }

// made is a node that may be, of a fixed seed: at most so deep, at places that do not matter.
func made(r *rand.Rand, deep int) node {
	words := []node{sym(0, "a"), sym(0, "<="), sym(0, "-"), sym(0, ".5"), word(lex.Numeral, 0, "0"), word(lex.Numeral, 0, "17"), word(lex.Decimal, 0, "1.50"), word(lex.Keyword, 0, ":k"), word(lex.Numeral, 0, strings.Repeat("9", 300))}
	if deep == 0 || r.Intn(3) == 0 {
		w := pick(r, words)
		w.At = r.Intn(99) - 50
		return w
	}
	n := list(r.Intn(99) - 50)
	for range r.Intn(5) {
		n.Kids = append(n.Kids, made(r, deep-1))
	}
	return n
}

func TestP13_3ThereAndBack(t *testing.T) {
	r := rand.New(rand.NewSource(133))
	for range 4000 {
		n := made(r, r.Intn(7))
		is(t, sexp.May(n), true, "May of ", n)
		thereAndBack(t, n)
		if sexp.Depth(n) > 0 {
			l, at, e := sexp.Read(sexp.Show(n), meter(t, sexp.Depth(n)-1))
			if len(l) != 0 || e != api.ErrBudget || sexp.Show(n)[at] != '(' {
				t.Errorf("%v, by a meter that is less deep: got %v, at %d, %v", n, l, at, e)
			}
		}
	}
	for _, w := range wordsThatMay() {
		thereAndBack(t, w)
		thereAndBack(t, list(0, w))
		thereAndBack(t, list(0, w, w))
	}
	for _, n := range different() {
		if sexp.May(n) {
			thereAndBack(t, n)
		}
	}
	thereAndBack(t, nested(sym(0, "a"), 9999))
}

// placed is a node that stands at a place, with its Kids, as it would be shown there, and where it ends.
func placed(n node, at int) (node, int) {
	n.At = at
	if n.Kind != 0 {
		return n, at + len(n.Text)
	}
	var kids []node
	at++
	for k, kid := range n.Kids {
		if k > 0 {
			at++
		}
		kid, at = placed(kid, at)
		kids = append(kids, kid)
	}
	n.Kids = kids
	return n, at + 1
}

func TestP13_4InARow(t *testing.T) {
	r := rand.New(rand.NewSource(134))
	for range 3000 {
		var want []node
		var texts []string
		at := 0
		for range r.Intn(6) {
			n, end := placed(made(r, r.Intn(5)), at)
			want, texts, at = append(want, n), append(texts, sexp.Show(n)), end+1
		}
		text := strings.Join(texts, " ")
		right(t, text, want...)
		checked(t, text, r.Intn(6))
	}
}

func TestP13_4ShortTexts(t *testing.T) {
	var all func(text string, more int)
	all = func(text string, more int) {
		for deep := range 4 {
			checked(t, text, deep)
		}
		if more > 0 {
			for _, piece := range []string{"(", ")", "a", " ", "1", ";\n"} {
				all(text+piece, more-1)
			}
		}
	}
	all("", 6)
}

func TestP13_4Parentheses(t *testing.T) {
	for length := range 15 {
		for bits := range 1 << length {
			text := make([]byte, length)
			for k := range text {
				text[k] = "()"[bits>>k&1]
			}
			checked(t, string(text), bits%8)
		}
	}
}

func TestP13_4LongerTexts(t *testing.T) {
	r := rand.New(rand.NewSource(135))
	pieces := []string{"(", "(", "(", ")", ")", ")", "a ", " b", " 1 ", " 2.5 ", " :k ", " ", "\n", "\t", "\r", ";()\n"}
	faults := append(pieces, "01", "{", "a:b")
	for k := range 20000 {
		from := pieces
		if k%4 == 0 {
			from = faults
		}
		var text strings.Builder
		for range r.Intn(24) {
			text.WriteString(pick(r, from))
		}
		checked(t, text.String(), r.Intn(8))
		checked(t, text.String(), mostBytes)
	}
}

func TestP13_6Sizes(t *testing.T) {
	r := rand.New(rand.NewSource(136))
	for range 2000 {
		kids := make([]node, r.Intn(6))
		size, depth := 1, 0
		for k := range kids {
			kids[k] = made(r, r.Intn(6))
			size += sexp.Size(kids[k])
			depth = max(depth, sexp.Depth(kids[k]))
		}
		n := list(0, kids...)
		is(t, sexp.Size(n), size, "Size of ", n)
		is(t, sexp.Depth(n), 1+depth, "Depth of ", n)
	}
	for _, w := range wordsThatMay() {
		is(t, sexp.Size(w), 1, "Size of ", brief(w.Text))
		is(t, sexp.Depth(w), 0, "Depth of ", brief(w.Text))
	}
}

// apart tells whether two texts share no memory.
func apart(a, b string) bool {
	if a == "" || b == "" {
		return true
	}
	from, other := uintptr(unsafe.Pointer(unsafe.StringData(a))), uintptr(unsafe.Pointer(unsafe.StringData(b)))
	return from+uintptr(len(a)) <= other || other+uintptr(len(b)) <= from
}

// every does something with each list of nodes that stands in one, and with that one.
func every(l []node, do func(l []node)) {
	for _, n := range l {
		every(n.Kids, do)
	}
	do(l)
}

func TestR1Memory(t *testing.T) {
	text := strings.Clone("(assert (<= (+ xx 1.5) " + strings.Repeat("9", 300) + ")) (:order (aa bb) () cc) dd")
	kept := strings.Clone(text)
	l := told(t, text)
	want, _, _, _ := model(text, mostBytes)
	every(l, func(l []node) {
		for _, n := range l {
			if len(n.Text) > 1 && !apart(n.Text, text) {
				t.Errorf("%s shares the text's memory", brief(n.Text))
			}
		}
	})
	for _, n := range l {
		if s := sexp.Show(n); len(s) > 1 && !apart(s, n.Text) {
			t.Errorf("Show shares the memory of %v", n)
		}
		if s := sexp.Head(n); s != "" && !apart(s, n.Kids[0].Text) {
			t.Errorf("Head shares the memory of %v", n)
		}
	}
	// No list has another one's room behind it.
	every(l, func(l []node) {
		for k := len(l); k < cap(l); k++ {
			l[:cap(l)][k] = sym(-1, "spare")
		}
	})
	if !alike(l, want) {
		t.Error("lists share memory:", l)
	}
	again := told(t, text)
	every(l, func(l []node) {
		for k := range l {
			l[k] = sym(-1, "changed")
		}
	})
	if !alike(again, want) || text != kept {
		t.Error("what is told once more was changed:", again)
	}
}

func TestR1Nodes(t *testing.T) {
	r := rand.New(rand.NewSource(137))
	nodes := append(different(), append(wordsThatMayNot(), listsWithTexts()...)...)
	for range 200 {
		nodes = append(nodes, made(r, 5))
	}
	for k, n := range nodes {
		kept, other := copied(n), nodes[(k+1)%len(nodes)]
		first := fmt.Sprint(sexp.May(n), sexp.Show(n), sexp.Size(n), sexp.Depth(n), sexp.Head(n), sexp.Same(n, n), sexp.Same(n, other), sexp.Same(other, n))
		second := fmt.Sprint(sexp.May(n), sexp.Show(n), sexp.Size(n), sexp.Depth(n), sexp.Head(n), sexp.Same(n, n), sexp.Same(n, other), sexp.Same(other, n))
		is(t, second, first, "asked again, ", n)
		if !alike([]node{n}, []node{kept}) {
			t.Errorf("a node that was handed in changed: %v, %v", n, kept)
		}
	}
}

// copied is a node in memory of its own.
func copied(n node) node {
	n.Text = strings.Clone(n.Text)
	n.Kids = slices.Clone(n.Kids)
	for k, kid := range n.Kids {
		n.Kids[k] = copied(kid)
	}
	return n
}
