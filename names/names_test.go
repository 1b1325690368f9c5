package names_test

import (
	"fmt"
	"math/rand"
	"slices"
	"strings"
	"testing"
	"unsafe"

	"alidade/api"
	"alidade/names"
)

const (
	mostName     = 64
	mostDeclared = 1 << 12
	mostOpen     = 64
	mostVars     = 1 << 20
	letters      = "abcdefghijklmnopqrstuvwxyzABCDEFGHIJKLMNOPQRSTUVWXYZ"
	digits       = "0123456789"
	signs        = "~!@$%^&*_-+=<>.?/"
)

// formWords are the words of S4's tables that are no names.
func formWords() []string {
	return strings.Fields("true false not and or => ite = <= < >= > _ divisible exists forall let - + * / Real Int")
}

// noNames are texts that are no names, but for the words of S4's tables.
func noNames() []string {
	return []string{
		"", " ", "\n", ";", ";x", "x ", " x", "x y", "x\n", "x;y", "(", ")", "()", "(x)", "x(", "x)",
		"0", "7", "12", "007", "1.5", "0.0", "1.", "01.5", "1x", "0x1F", "9~",
		":", ":x", ":order", "::", "x:", "x:y", "x{", "x'", "x\"", "|x|", "x,y", "[x]", "#x", "\\x", "`x", "x\x00", "\x7f", "é", "xé", "λ", "x\xff",
		long('x', mostName+1), long('+', mostName+1), long('7', mostName), long('x', 1<<16), long('x', 1<<20),
	}
}

// someNames are texts that are names.
func someNames() []string {
	return []string{
		"x", "X", "_x", "__", "--", "-1", "+0", ".5", "...", "x.5", "x1", "~", "!", "@", "$", "%", "^", "&", "?", ".", "==", "<>", "=<", "><", "<=>", "=>=", "//", "**",
		"True", "TRUE", "False", "tru", "truee", "Not", "nand", "And", "Or", "xor", "Ite", "ites", "Let", "let0", "lets", "exist", "foralls", "divisible3", "real", "int", "Reals", "Integer", "a-b", "x*y",
		long('x', mostName), long('-', mostName), "a" + long('0', mostName-1),
	}
}

// long is so many times a byte.
func long(c byte, times int) string { return strings.Repeat(string(rune(c)), times) }

// numbered are texts of one stem, with numbers from one on.
func numbered(stem string, from, many int) []string {
	l := make([]string, many)
	for k := range l {
		l[k] = fmt.Sprint(stem, from+k)
	}
	return l
}

// brief tells a text briefly.
func brief(s string) string {
	if len(s) > 80 {
		return fmt.Sprintf("%q .. %q, %d bytes", s[:30], s[len(s)-30:], len(s))
	}
	return fmt.Sprintf("%q", s)
}

// is complains unless a call answered what is wanted.
func is[T comparable](t *testing.T, got, want T, what ...any) {
	t.Helper()
	if got != want {
		t.Errorf("%s: got %v, want %v", fmt.Sprint(what...), got, want)
	}
}

// same complains unless a call answered the list that is wanted; none and nothing are the same.
func same[T comparable](t *testing.T, got, want []T, what ...any) {
	t.Helper()
	if !slices.Equal(got, want) {
		t.Errorf("%s: got %v, want %v", fmt.Sprint(what...), got, want)
	}
}

// declares complains unless a name is declared, with a variable.
func declares(t *testing.T, n *names.Table, name string, want int) {
	t.Helper()
	if v, e := n.Declare(name); v != want || e != api.OK {
		t.Errorf("Declare of %s: got %d, %v, want %d, OK", brief(name), v, e, want)
	}
}

// opens complains unless a scope of names is opened, with variables from one on.
func opens(t *testing.T, n *names.Table, l []string, from int) {
	t.Helper()
	vars, e := n.Open(l)
	right := e == api.OK && len(vars) == len(l)
	for k, v := range vars {
		right = right && v == from+k
	}
	if !right {
		t.Errorf("Open of %d names: got %d variables, %v, want those from %d on, OK", len(l), len(vars), e, from)
	}
}

// closes complains unless so many scopes are shut.
func closes(t *testing.T, n *names.Table, scopes int) {
	t.Helper()
	for range scopes {
		is(t, n.Close(), api.OK, "Close")
	}
}

// finds complains unless a name stands for a variable.
func finds(t *testing.T, n *names.Table, name string, want int) {
	t.Helper()
	if v, there := n.Find(name); v != want || !there {
		t.Errorf("Find of %s: got %d, %v, want %d, true", brief(name), v, there, want)
	}
}

// findsNone complains unless a name stands for nothing.
func findsNone(t *testing.T, n *names.Table, name string) {
	t.Helper()
	if v, there := n.Find(name); v != 0 || there {
		t.Errorf("Find of %s: got %d, %v, want 0, false", brief(name), v, there)
	}
}

// called complains unless a variable has a name.
func called(t *testing.T, n *names.Table, v int, want string) {
	t.Helper()
	if name, there := n.Of(v); name != want || !there {
		t.Errorf("Of %d: got %s, %v, want %s, true", v, brief(name), there, brief(want))
	}
}

// calledNone complains unless a variable has no name.
func calledNone(t *testing.T, n *names.Table, v int) {
	t.Helper()
	if name, there := n.Of(v); name != "" || there {
		t.Errorf("Of %d: got %s, %v, want nothing, false", v, brief(name), there)
	}
}

// refusesName complains unless Declare of a name has an error, and tells nothing else.
func refusesName(t *testing.T, n *names.Table, name string, want api.Errno) {
	t.Helper()
	if v, e := n.Declare(name); v != 0 || e != want {
		t.Errorf("Declare of %s: got %d, %v, want 0, %v", brief(name), v, e, want)
	}
}

// refusesScope complains unless Open of names has an error, and tells nothing else.
func refusesScope(t *testing.T, n *names.Table, l []string, want api.Errno) {
	t.Helper()
	if vars, e := n.Open(l); len(vars) != 0 || e != want {
		t.Errorf("Open of %d names, %.60q ..: got %d variables, %v, want none, %v", len(l), l[:min(len(l), 4)], len(vars), e, want)
	}
}

// bound is a name with its variable, and the scope that has it: 0 if it is declared, else how many were open with it.
type bound struct {
	name  string
	v, in int
}

// model is a table in another way: one list, gone through from its beginning.
type model struct {
	list       []bound
	open, next int
}

// declare is what Declare does.
func (m *model) declare(name string) (int, api.Errno) {
	many := 0
	for _, b := range m.list {
		if b.in == 0 {
			many++
		}
		if b.in == 0 && b.name == name {
			return 0, api.ErrTwice
		}
	}
	switch {
	case !isName(name):
		return 0, api.ErrForm
	case many == mostDeclared || m.next == mostVars:
		return 0, api.ErrTooLarge
	}
	m.next++
	m.list = append(m.list, bound{name, m.next - 1, 0})
	return m.next - 1, api.OK
}

// openScope is what Open does.
func (m *model) openScope(l []string) (vars []int, e api.Errno) {
	sorts := map[string]int{}
	for _, name := range l {
		if !isName(name) {
			return nil, api.ErrForm
		}
		sorts[name]++
	}
	switch {
	case len(l) == 0:
		return nil, api.ErrForm
	case len(sorts) < len(l):
		return nil, api.ErrTwice
	case m.open == mostOpen || m.next+len(l) > mostVars:
		return nil, api.ErrTooLarge
	}
	m.open++
	for _, name := range l {
		m.list = append(m.list, bound{name, m.next, m.open})
		vars = append(vars, m.next)
		m.next++
	}
	return vars, api.OK
}

// close is what Close does.
func (m *model) close() api.Errno {
	if m.open == 0 {
		return api.ErrNone
	}
	m.list = slices.DeleteFunc(m.list, func(b bound) bool { return b.in == m.open })
	m.open--
	return api.OK
}

// copy is what Copy does.
func (m *model) copy() *model { return &model{slices.Clone(m.list), m.open, m.next} }

// find is what Find does.
func (m *model) find(name string) (v int, is bool) {
	in := -1
	for _, b := range m.list {
		if b.name == name && b.in > in {
			v, in = b.v, b.in
		}
	}
	return v, in >= 0
}

// of is what Of does.
func (m *model) of(v int) (string, bool) {
	for _, b := range m.list {
		if b.v == v {
			return b.name, true
		}
	}
	return "", false
}

// declared is what Declared does.
func (m *model) declared() (l []string, vars []int) {
	for _, b := range m.list {
		if b.in == 0 {
			l = append(l, b.name)
		}
	}
	slices.Sort(l)
	for _, name := range l {
		k := slices.IndexFunc(m.list, func(b bound) bool { return b.in == 0 && b.name == name })
		vars = append(vars, m.list[k].v)
	}
	return l, vars
}

// isName tells by the words of the chapter whether a text is a name.
func isName(s string) bool {
	return s != "" && len(s) <= mostName && strings.Trim(s, letters+digits+signs) == "" &&
		!strings.Contains(digits, s[:1]) && !slices.Contains(formWords(), s) &&
		!strings.ContainsFunc(s, func(r rune) bool { return !strings.ContainsRune(letters+digits+signs, r) })
}

// agrees complains unless a table tells what its model does, of some names, and of all variables and some around them; it also holds what is told against P14.4.
func agrees(t *testing.T, n *names.Table, m *model, pool []string, what ...any) {
	t.Helper()
	about := fmt.Sprint(what...)
	is(t, n.Next(), m.next, about, ": Next")
	gotNames, gotVars := n.Declared()
	wantNames, wantVars := m.declared()
	same(t, gotNames, wantNames, about, ": the names of Declared")
	same(t, gotVars, wantVars, about, ": the variables of Declared")
	for _, name := range pool {
		v, there := n.Find(name)
		wantV, wantThere := m.find(name)
		if v != wantV || there != wantThere {
			t.Errorf("%s: Find of %s: got %d, %v, want %d, %v", about, brief(name), v, there, wantV, wantThere)
		}
		if back, is := n.Of(v); there && (back != name || !is) {
			t.Errorf("%s: Find of %s is %d, Of that %s, %v", about, brief(name), v, brief(back), is)
		}
	}
	for v := -2; v < m.next+3; v++ {
		name, there := n.Of(v)
		wantName, wantThere := m.of(v)
		if name != wantName || there != wantThere {
			t.Errorf("%s: Of %d: got %s, %v, want %s, %v", about, v, brief(name), there, brief(wantName), wantThere)
		}
	}
}

// full is a table with as many names declared as may be, and its model.
func full(t *testing.T) (*names.Table, *model) {
	t.Helper()
	n, m := names.New(), &model{}
	for v, name := range numbered("d", 0, mostDeclared) {
		declares(t, n, name, v)
		m.list = append(m.list, bound{name, v, 0})
	}
	m.next = mostDeclared
	return n, m
}

// The chapter's examples.
func TestExamples(t *testing.T) {
	n := names.New()
	declares(t, n, "x", 0)
	declares(t, n, "y", 1)
	opens(t, n, []string{"y", "z"}, 2)
	finds(t, n, "y", 2)
	closes(t, n, 1)
	finds(t, n, "y", 1)
	findsNone(t, n, "z")
	is(t, n.Next(), 4, "Next")
	refusesName(t, n, "x", api.ErrTwice)
	refusesName(t, n, "<=", api.ErrForm)
	is(t, names.Fresh("b", []string{"b0", "b2"}), "b1", "Fresh of b")
}

// refusesEnd complains unless no scope is open.
func refusesEnd(t *testing.T, n *names.Table) {
	t.Helper()
	is(t, n.Close(), api.ErrNone, "Close without a scope")
}

// P14.1: a new table has nothing.
func TestNew(t *testing.T) {
	agrees(t, names.New(), &model{}, append(someNames(), noNames()...), "a new table")
	refusesEnd(t, names.New())
	first, second := names.New(), names.New()
	declares(t, first, "x", 0)
	findsNone(t, second, "x")
	declares(t, second, "y", 0)
	findsNone(t, first, "y")
}

// P14.1: Name, of what is a name and of what is none.
func TestName(t *testing.T) {
	for _, s := range someNames() {
		is(t, names.Name(s), true, "Name of ", brief(s))
	}
	for _, s := range append(noNames(), formWords()...) {
		is(t, names.Name(s), false, "Name of ", brief(s))
	}
	for _, s := range formWords() {
		for _, c := range []byte(letters + digits + signs) {
			is(t, names.Name(s+string(rune(c))), isName(s+string(rune(c))), "Name of ", s, " and ", string(rune(c)))
			is(t, names.Name(string(rune(c))+s), isName(string(rune(c))+s), "Name of ", string(rune(c)), " and ", s)
		}
	}
}

// P14.1: Name of all texts of a byte, and of two.
func TestNameOfBytes(t *testing.T) {
	for c := range 256 {
		one := string([]byte{byte(c)})
		is(t, names.Name(one), isName(one), "Name of ", brief(one))
		for d := range 256 {
			two := string([]byte{byte(c), byte(d)})
			is(t, names.Name(two), isName(two), "Name of ", brief(two))
		}
	}
}

// P14.1, Errors: what is no name is not declared, and not bound.
func TestNoName(t *testing.T) {
	n := names.New()
	declares(t, n, "x", 0)
	opens(t, n, []string{"y"}, 1)
	m := &model{list: []bound{{"x", 0, 0}, {"y", 1, 1}}, open: 1, next: 2}
	for _, s := range append(noNames(), formWords()...) {
		refusesName(t, n, s, api.ErrForm)
		refusesScope(t, n, []string{s}, api.ErrForm)
		refusesScope(t, n, []string{"a", s}, api.ErrForm)
		refusesScope(t, n, []string{s, "a"}, api.ErrForm)
		findsNone(t, n, s)
	}
	agrees(t, n, m, []string{"a", "x", "y"}, "behind what is no name")
	declares(t, n, "a", 2)
}

// P14.1: each kind of name is declared, and bound.
func TestNames(t *testing.T) {
	n, l := names.New(), someNames()
	for v, s := range l {
		declares(t, n, s, v)
		finds(t, n, s, v)
	}
	opens(t, n, l, len(l))
	for k, s := range l {
		finds(t, n, s, len(l)+k)
		called(t, n, k, s)
		called(t, n, len(l)+k, s)
		refusesName(t, n, s, api.ErrTwice)
	}
}

// Errors: no table, of each call.
func TestNil(t *testing.T) {
	var n *names.Table
	for _, s := range []string{"x", "", "let", "1"} {
		refusesName(t, n, s, api.ErrNil)
		refusesScope(t, n, []string{s}, api.ErrNil)
		findsNone(t, n, s)
	}
	refusesScope(t, n, nil, api.ErrNil)
	refusesScope(t, n, []string{"x", "x"}, api.ErrNil)
	refusesScope(t, n, numbered("n", 0, 10), api.ErrNil)
	is(t, n.Close(), api.ErrNil, "Close of no table")
	for _, v := range []int{-1, 0, 1, mostVars} {
		calledNone(t, n, v)
	}
	l, vars := n.Declared()
	is(t, len(l)+len(vars), 0, "what is declared in no table")
	is(t, n.Next(), 0, "Next of no table")
	c := n.Copy()
	if c == nil {
		t.Fatal("the copy of no table is none")
	}
	agrees(t, c, &model{}, someNames(), "the copy of no table")
	declares(t, c, "x", 0)
	opens(t, c, []string{"x"}, 1)
}

// R1: a table that New did not make does not panic either, and goes on from nothing.
func TestZero(t *testing.T) {
	var n names.Table
	agrees(t, &n, &model{}, someNames(), "the zero table")
	refusesEnd(t, &n)
	agrees(t, n.Copy(), &model{}, someNames(), "a copy of the zero table")
	opens(t, &n, []string{"x"}, 0)
	declares(t, &n, "x", 1)
	closes(t, &n, 1)
	finds(t, &n, "x", 1)
}

// Errors: what is declared is not declared again, what only a scope has is.
func TestDeclaredAlready(t *testing.T) {
	n := names.New()
	declares(t, n, "x", 0)
	refusesName(t, n, "x", api.ErrTwice)
	opens(t, n, []string{"x", "y"}, 1)
	refusesName(t, n, "x", api.ErrTwice)
	declares(t, n, "y", 3)
	finds(t, n, "y", 2)
	called(t, n, 2, "y")
	called(t, n, 3, "y")
	refusesName(t, n, "y", api.ErrTwice)
	l, vars := n.Declared()
	same(t, l, []string{"x", "y"}, "names declared")
	same(t, vars, []int{0, 3}, "variables declared")
	declares(t, n, "z", 4)
	finds(t, n, "z", 4)
	closes(t, n, 1)
	finds(t, n, "y", 3)
	finds(t, n, "z", 4)
	calledNone(t, n, 2)
}

// Errors: MaxCalls names are declared, and one more; the errors ahead of it are told ahead of it; scopes have as many as they like.
func TestMostDeclared(t *testing.T) {
	n, m := full(t)
	refusesName(t, n, "x", api.ErrTooLarge)
	refusesName(t, n, "d0", api.ErrTwice)
	refusesName(t, n, fmt.Sprint("d", mostDeclared-1), api.ErrTwice)
	refusesName(t, n, "let", api.ErrForm)
	agrees(t, n, m, []string{"x", "d0", "d9", "d4095", "d4096"}, "as many declared as may be")
	opens(t, n, []string{"x"}, mostDeclared)
	refusesName(t, n, "x", api.ErrTooLarge)
	closes(t, n, 1)
	refusesName(t, n, "x", api.ErrTooLarge)
	refusesName(t, n.Copy(), "x", api.ErrTooLarge)

	n = names.New()
	opens(t, n, numbered("s", 0, mostDeclared+1), 0)
	declares(t, n, "x", mostDeclared+1)
}

// Errors: names are declared from first to last, from last to first, and crosswise; each is found.
func TestDeclaredInAnyRow(t *testing.T) {
	l := numbered("d", 0, mostDeclared)
	random := rand.New(rand.NewSource(14))
	for _, shuffle := range []func([]string){
		slices.Sort[[]string], slices.Reverse[[]string],
		func(l []string) { random.Shuffle(len(l), func(a, b int) { l[a], l[b] = l[b], l[a] }) },
	} {
		shuffle(l)
		n := names.New()
		for v, name := range l {
			declares(t, n, name, v)
		}
		for v, name := range l {
			finds(t, n, name, v)
			called(t, n, v, name)
		}
		got, vars := n.Declared()
		is(t, slices.IsSorted(got) && len(got) == len(l), true, "names declared stand by their bytes")
		for k, v := range vars {
			is(t, got[k], l[v], "the name of the variable ", v)
		}
	}
}

// Errors: the last variable, and one more, by Declare.
func TestLastDeclared(t *testing.T) {
	n := names.New()
	opens(t, n, numbered("s", 0, mostVars-2), 0)
	declares(t, n, "x", mostVars-2)
	closes(t, n, 1)
	declares(t, n, "y", mostVars-1)
	is(t, n.Next(), mostVars, "Next, with no variable left")
	refusesName(t, n, "z", api.ErrTooLarge)
	refusesName(t, n, "y", api.ErrTwice)
	refusesName(t, n, "", api.ErrForm)
	refusesScope(t, n, []string{"z"}, api.ErrTooLarge)
	refusesScope(t, n, []string{"z", "z"}, api.ErrTwice)
	refusesScope(t, n, []string{"z", "z", "1"}, api.ErrForm)
	is(t, n.Next(), mostVars, "Next, with no variable left")
	called(t, n, mostVars-2, "x")
	called(t, n, mostVars-1, "y")
	for _, v := range []int{0, mostVars - 3, mostVars, -1, -1 << 63, 1<<63 - 1} {
		calledNone(t, n, v)
	}
	refusesName(t, n.Copy(), "z", api.ErrTooLarge)
}

// Errors: the last variable, and one more, by Open.
func TestLastBound(t *testing.T) {
	n, l := names.New(), numbered("s", 0, mostVars+1)
	refusesScope(t, n, l, api.ErrTooLarge)
	is(t, n.Next(), 0, "Next behind a scope of too many names")
	refusesEnd(t, n)
	refusesScope(t, n, append(slices.Clone(l), "s0"), api.ErrTwice)
	refusesScope(t, n, append(slices.Clone(l), "7"), api.ErrForm)
	opens(t, n, l[:mostVars], 0)
	is(t, n.Next(), mostVars, "Next, with no variable left")
	finds(t, n, fmt.Sprint("s", mostVars-1), mostVars-1)
	called(t, n, mostVars-1, fmt.Sprint("s", mostVars-1))
	refusesName(t, n, "x", api.ErrTooLarge)
	refusesScope(t, n, []string{"x"}, api.ErrTooLarge)
	closes(t, n, 1)
	refusesName(t, n, "x", api.ErrTooLarge)
	refusesScope(t, n, []string{"x"}, api.ErrTooLarge)

	n = names.New()
	declares(t, n, "x", 0)
	refusesScope(t, n, l[:mostVars], api.ErrTooLarge)
	opens(t, n, l[:mostVars-2], 1)
	refusesScope(t, n, []string{"a", "b"}, api.ErrTooLarge)
	opens(t, n, []string{"a"}, mostVars-1)
	finds(t, n, "a", mostVars-1)
}

// Errors: Open of what is no list of names, and which error goes ahead.
func TestOpenRefused(t *testing.T) {
	n := names.New()
	for _, l := range [][]string{nil, {}, {"1"}, {"x", "1"}, {"x", "x", "1"}, {"1", "x", "x"}, {"x", "1", "x"}, {"let", "let"}, {"", ""}, {"x", "y", ""}} {
		refusesScope(t, n, l, api.ErrForm)
	}
	for _, l := range [][]string{{"x", "x"}, {"x", "y", "x"}, {"y", "x", "x"}, {"x", "x", "y"}, {"a", "b", "c", "d", "e", "c"}, {"x", "x", "x"}} {
		refusesScope(t, n, l, api.ErrTwice)
	}
	for _, l := range [][]string{{"x", "X"}, {"x", "xx", "xxx"}, {"x0", "x00"}} {
		vars, e := n.Open(l)
		is(t, len(vars), len(l), "variables of ", l)
		is(t, e, api.OK, "Open of ", l)
	}
}

// Errors: MaxDepth scopes are open, and one more; errors ahead of that are told ahead of it.
func TestMostOpen(t *testing.T) {
	n := names.New()
	for v := range mostOpen {
		opens(t, n, []string{"x"}, v)
		finds(t, n, "x", v)
	}
	refusesScope(t, n, []string{"x"}, api.ErrTooLarge)
	refusesScope(t, n, []string{"x", "x"}, api.ErrTwice)
	refusesScope(t, n, []string{"x", "1"}, api.ErrForm)
	refusesScope(t, n, nil, api.ErrForm)
	refusesScope(t, n.Copy(), []string{"x"}, api.ErrTooLarge)
	is(t, n.Next(), mostOpen, "Next behind a scope too deep")
	declares(t, n, "x", mostOpen)
	for v := range mostOpen {
		called(t, n, v, "x")
	}
	closes(t, n, 1)
	opens(t, n, []string{"y"}, mostOpen+1)
	refusesScope(t, n, []string{"z"}, api.ErrTooLarge)
	for v := mostOpen - 2; v >= 0; v-- {
		closes(t, n, 1)
		finds(t, n, "x", v)
	}
	closes(t, n, 1)
	finds(t, n, "x", mostOpen)
	refusesEnd(t, n)
	finds(t, n, "x", mostOpen)
}

// Errors: Close without a scope changes nothing.
func TestCloseRefused(t *testing.T) {
	n := names.New()
	declares(t, n, "x", 0)
	opens(t, n, []string{"y"}, 1)
	closes(t, n, 1)
	refusesEnd(t, n)
	refusesEnd(t, n)
	agrees(t, n, &model{list: []bound{{"x", 0, 0}}, next: 2}, []string{"x", "y"}, "behind a Close that was refused")
}

// P14.2, P14.3: names that hide others, in one scope and in two, stand for what they did when these are shut.
func TestHidden(t *testing.T) {
	n := names.New()
	declares(t, n, "x", 0)
	opens(t, n, []string{"a", "x"}, 1)
	finds(t, n, "x", 2)
	opens(t, n, []string{"x", "b"}, 3)
	finds(t, n, "x", 3)
	finds(t, n, "a", 1)
	for v, name := range []string{"x", "a", "x", "x", "b"} {
		called(t, n, v, name)
	}
	closes(t, n, 1)
	finds(t, n, "x", 2)
	findsNone(t, n, "b")
	calledNone(t, n, 3)
	calledNone(t, n, 4)
	opens(t, n, []string{"x"}, 5)
	finds(t, n, "x", 5)
	closes(t, n, 2)
	finds(t, n, "x", 0)
	findsNone(t, n, "a")
	called(t, n, 0, "x")
	for v := 1; v < 8; v++ {
		calledNone(t, n, v)
	}
	is(t, n.Next(), 6, "Next behind all scopes")
}

// P14.3: behind as many Closes as Opens each name stands for what it did.
func TestShutAgain(t *testing.T) {
	random := rand.New(rand.NewSource(143))
	pool := []string{"a", "b", "c", "d", "e", "f", "g", "h"}
	for range 200 {
		n, m := names.New(), &model{}
		for _, name := range pool[:random.Intn(len(pool))] {
			declares(t, n, name, m.next)
			m.declare(name)
		}
		for range random.Intn(3) {
			open(t, n, m, some(random, pool))
		}
		grown, opened := 0, 0
		for range random.Intn(40) {
			if opened > 0 && random.Intn(2) == 0 {
				closes(t, n, 1)
				opened--
				continue
			}
			l := some(random, pool)
			opens(t, n, l, m.next+grown)
			grown += len(l)
			opened++
		}
		closes(t, n, opened)
		m.next += grown
		agrees(t, n, m, pool, "behind as many Closes as Opens")
	}
}

// open opens a scope of a table, and of its model.
func open(t *testing.T, n *names.Table, m *model, l []string) {
	t.Helper()
	opens(t, n, l, m.next)
	m.openScope(l)
}

// some are some of a list, one at least, none twice.
func some(random *rand.Rand, pool []string) []string {
	l := make([]string, 0, len(pool))
	for _, k := range random.Perm(len(pool))[:1+random.Intn(len(pool))] {
		l = append(l, pool[k])
	}
	return l
}

// P14.1 to P14.6: calls of a fixed seed, of some tables and their copies, held against models; what is done to one of them changes no other one, what is refused changes none.
func TestModel(t *testing.T) {
	random := rand.New(rand.NewSource(1414))
	pool := []string{"a", "b", "c", "d", "A", "B", "aa", "a0", "a00", "~", "+1", "x.y", long('n', mostName), "let", "1", "", ":a", "(", long('n', mostName+1)}
	for round := range 60 {
		tables, models := []*names.Table{names.New()}, []*model{{}}
		for step := range 60 {
			k := random.Intn(len(tables))
			n, m := tables[k], models[k]
			about := fmt.Sprint("round ", round, ", step ", step, ", table ", k)
			switch random.Intn(8) {
			case 0, 1:
				name := pool[random.Intn(len(pool))]
				v, e := n.Declare(name)
				wantV, wantE := m.declare(name)
				is(t, v, wantV, about, ": Declare of ", brief(name))
				is(t, e, wantE, about, ": Declare of ", brief(name))
			case 2, 3, 4:
				l := make([]string, random.Intn(4))
				for k := range l {
					l[k] = pool[random.Intn(len(pool)-random.Intn(2)*6)]
				}
				vars, e := n.Open(l)
				wantVars, wantE := m.openScope(l)
				same(t, vars, wantVars, about, ": Open of ", l)
				is(t, e, wantE, about, ": Open of ", l)
			case 5, 6:
				is(t, n.Close(), m.close(), about, ": Close")
			case 7:
				tables, models = append(tables, n.Copy()), append(models, m.copy())
			}
			for k := range tables {
				agrees(t, tables[k], models[k], pool, about, ", seen at ", k)
			}
			if t.Failed() {
				t.FailNow()
			}
		}
	}
}

// P14.4: no two that are there have one variable, and each declared name is found by its variable, but where a scope has it.
func TestThereAndBack(t *testing.T) {
	n := names.New()
	opens(t, n, []string{"a", "b"}, 0)
	declares(t, n, "c", 2)
	declares(t, n, "b", 3)
	opens(t, n, []string{"c", "a"}, 4)
	declares(t, n, "a", 6)
	for v, name := range []string{"a", "b", "c", "b", "c", "a", "a"} {
		called(t, n, v, name)
	}
	finds(t, n, "a", 5)
	finds(t, n, "b", 1)
	finds(t, n, "c", 4)
	closes(t, n, 1)
	finds(t, n, "a", 0)
	finds(t, n, "b", 1)
	finds(t, n, "c", 2)
	closes(t, n, 1)
	l, vars := n.Declared()
	same(t, l, []string{"a", "b", "c"}, "names declared")
	same(t, vars, []int{6, 3, 2}, "variables declared")
	for k, name := range l {
		finds(t, n, name, vars[k])
		called(t, n, vars[k], name)
	}
}

// P14.5: Next, and all else, behind each error.
func TestRefused(t *testing.T) {
	n := names.New()
	declares(t, n, "x", 0)
	opens(t, n, []string{"y", "z"}, 1)
	m := &model{list: []bound{{"x", 0, 0}, {"y", 1, 1}, {"z", 2, 1}}, open: 1, next: 3}
	pool := []string{"x", "y", "z", "a", "b", "let", "1"}
	for what, refused := range map[string]func() api.Errno{
		"Declare of no name":         func() api.Errno { _, e := n.Declare("1"); return e },
		"Declare of x":               func() api.Errno { _, e := n.Declare("x"); return e },
		"Open of none":               func() api.Errno { _, e := n.Open(nil); return e },
		"Open of a, let":             func() api.Errno { _, e := n.Open([]string{"a", "let"}); return e },
		"Open of a, b, a":            func() api.Errno { _, e := n.Open([]string{"a", "b", "a"}); return e },
		"Open of too many":           func() api.Errno { _, e := n.Open(numbered("a", 0, mostVars-2)); return e },
		"Close of a copy, and again": func() api.Errno { c := n.Copy(); c.Close(); return c.Close() },
	} {
		if refused() == api.OK {
			t.Error(what, "is not refused")
		}
		agrees(t, n, m, pool, what)
	}
}

// P14.2: Declared tells names as texts stand by their bytes.
func TestDeclaredRow(t *testing.T) {
	n := names.New()
	given := []string{"b", "B", "ab", "a", "~", "!", "_b", "a0", "a00", "a-", "aB", "Z", "z", ".x", "b2", "b10", "b1"}
	for v, name := range given {
		declares(t, n, name, v)
	}
	opens(t, n, []string{"c", "a"}, len(given))
	want := []string{"!", ".x", "B", "Z", "_b", "a", "a-", "a0", "a00", "aB", "ab", "b", "b1", "b10", "b2", "z", "~"}
	l, vars := n.Declared()
	same(t, l, want, "names declared")
	for k, name := range want {
		is(t, vars[k], slices.Index(given, name), "the variable declared as ", name)
	}
}

// R1: what was told, and what was handed in, is written over, and nothing of the table is another one.
func TestWrittenOver(t *testing.T) {
	n := names.New()
	declares(t, n, "x", 0)
	declares(t, n, "w", 1)
	handed := []string{"z", "y"}
	vars, _ := n.Open(handed)
	same(t, handed, []string{"z", "y"}, "what was handed in")
	m := &model{list: []bound{{"x", 0, 0}, {"w", 1, 0}, {"z", 2, 1}, {"y", 3, 1}}, open: 1, next: 4}
	pool := []string{"w", "x", "y", "z", "a"}
	handed[0], handed[1] = "a", "a"
	vars[0], vars[1] = 77, 77
	agrees(t, n, m, pool, "Open's lists written over")
	l, declared := n.Declared()
	l[0], l[1], declared[0], declared[1] = "a", "a", 77, 77
	_, _ = append(l, "a"), append(declared, 77)
	agrees(t, n, m, pool, "Declared's lists written over")
	again, _ := n.Declared()
	same(t, again, []string{"w", "x"}, "names declared, told again")

	text := []byte("v")
	name := unsafe.String(&text[0], 1)
	declares(t, n, name, 4)
	opens(t, n, []string{name}, 5)
	text[0] = 'a'
	finds(t, n, "v", 5)
	called(t, n, 4, "v")
	called(t, n, 5, "v")
	findsNone(t, n, "a")
}

// P14.6: a copy with scopes open, and the table, each gone on with by itself.
func TestCopy(t *testing.T) {
	n, m := names.New(), &model{}
	pool := []string{"a", "b", "c", "d", "x", "y"}
	declares(t, n, "x", 0)
	m.declare("x")
	open(t, n, m, []string{"a", "x"})
	open(t, n, m, []string{"b", "a"})
	c, mc := n.Copy(), m.copy()
	agrees(t, c, mc, pool, "a copy")
	both := func(what string) {
		t.Helper()
		agrees(t, n, m, pool, what, ", the table")
		agrees(t, c, mc, pool, what, ", the copy")
	}

	declares(t, c, "a", mc.next)
	mc.declare("a")
	both("the copy declares")
	declares(t, n, "c", m.next)
	m.declare("c")
	both("the table declares")
	closes(t, c, 2)
	mc.close()
	mc.close()
	both("the copy shuts")
	refusesEnd(t, c)
	open(t, c, mc, []string{"d", "b", "c"})
	both("the copy opens")
	closes(t, n, 1)
	m.close()
	open(t, n, m, []string{"y", "x"})
	both("the table shuts and opens")
	closes(t, n, 2)
	m.close()
	m.close()
	both("the table shuts")
	refusesEnd(t, n)
	closes(t, c, 1)
	mc.close()
	both("the copy shuts its own")
}

// P14.6: a table and its copy, of some sizes, that both declare, and both open, names of their own.
func TestSideBySide(t *testing.T) {
	for many := range 18 {
		n, m := names.New(), &model{}
		for _, name := range numbered("d", 0, many) {
			declares(t, n, name, m.next)
			m.declare(name)
			open(t, n, m, []string{"s", name})
		}
		c, mc := n.Copy(), m.copy()
		declares(t, n, "a", m.next)
		m.declare("a")
		declares(t, c, "z", mc.next)
		mc.declare("z")
		open(t, n, m, []string{"p"})
		open(t, c, mc, []string{"q", "d0"})
		pool := append(numbered("d", 0, many+1), "a", "p", "q", "s", "z")
		agrees(t, n, m, pool, "the table, of ", many)
		agrees(t, c, mc, pool, "the copy, of ", many)
	}
}

// fresh is Fresh by its words: number by number.
func fresh(stem string, taken []string) string {
	if !isName(stem) {
		return ""
	}
	for k := range len(taken) + 1 {
		if s := fmt.Sprint(stem, k); isName(s) && !slices.Contains(taken, s) {
			return s
		}
	}
	return ""
}

// P14.2: Fresh, by stems and names taken of each kind.
func TestFresh(t *testing.T) {
	for _, c := range []struct {
		stem  string
		taken []string
		want  string
	}{
		{"b", nil, "b0"},
		{"b", []string{}, "b0"},
		{"b", []string{"b0"}, "b1"},
		{"b", []string{"b1"}, "b0"},
		{"b", []string{"b0", "b0", "b0"}, "b1"},
		{"b", []string{"b1", "b0", "b1", "b0", "b3"}, "b2"},
		{"b", []string{"b", "x0", "c0", "B0", "0", "", "b 0", "ab0", "b0b", "b0 ", "b-0", "b+0", "b_0", "b00", "b01", "b0x0", "b.0", "b0.0", "b:0"}, "b0"},
		{"b", []string{"b99999999999999999999", "b18446744073709551616", "b9223372036854775808", "b-1", "b0"}, "b1"},
		{"b", []string{"let", "(", "1", long('b', 1<<10)}, "b0"},
		{"b", numbered("b", 0, 10), "b10"},
		{"b", numbered("b", 0, 1000), "b1000"},
		{"b", numbered("b", 1, 1000), "b0"},
		{"b1", []string{"b1", "b10", "b11"}, "b12"},
		{"b", []string{"b10", "b11"}, "b0"},
		{"-1", []string{"-10"}, "-11"},
		{"--", []string{"--0"}, "--1"},
		{".", nil, ".0"},
		{"", nil, ""},
		{"", []string{"0"}, ""},
		{"7", nil, ""},
		{"1.5", nil, ""},
		{":b", nil, ""},
		{"(", nil, ""},
		{"b c", nil, ""},
		{"b\x00", nil, ""},
		{long('b', mostName), nil, ""},
		{long('b', mostName+1), nil, ""},
		{long('b', mostName-1), nil, long('b', mostName-1) + "0"},
		{long('b', mostName-1), numbered(long('b', mostName-1), 0, 9), long('b', mostName-1) + "9"},
		{long('b', mostName-1), numbered(long('b', mostName-1), 0, 10), ""},
		{long('b', mostName-1), numbered(long('b', mostName-1), 1, 9), long('b', mostName-1) + "0"},
		{long('b', mostName-1), numbered(long('b', mostName-1), 0, 1000), ""},
		{long('b', mostName-2), numbered(long('b', mostName-2), 0, 10), long('b', mostName-2) + "10"},
		{long('b', mostName-2), numbered(long('b', mostName-2), 0, 99), long('b', mostName-2) + "99"},
		{long('b', mostName-2), numbered(long('b', mostName-2), 0, 100), ""},
	} {
		handed := slices.Clone(c.taken)
		is(t, names.Fresh(c.stem, handed), c.want, "Fresh of ", brief(c.stem), " with ", len(c.taken), " taken")
		is(t, fresh(c.stem, c.taken), c.want, "the words of Fresh of ", brief(c.stem))
		same(t, handed, c.taken, "what is taken")
	}
	for _, stem := range formWords() {
		is(t, names.Fresh(stem, nil), "", "Fresh of ", stem)
		is(t, names.Fresh(stem, []string{stem, stem + "0"}), "", "Fresh of ", stem)
	}
}

// P14.2: Fresh of lists of a fixed seed, held against its words.
func TestFreshModel(t *testing.T) {
	random := rand.New(rand.NewSource(142))
	stems := []string{"b", "b1", "b10", "x", "~", "-", "let", "", "1", long('b', mostName-1), long('b', mostName)}
	ends := []string{"", "0", "1", "2", "3", "4", "5", "10", "11", "00", "01", "x", "-1", "+1", "0.0"}
	for range 20000 {
		taken := make([]string, random.Intn(14))
		for k := range taken {
			taken[k] = stems[random.Intn(3)] + ends[random.Intn(len(ends))]
			if random.Intn(3) == 0 {
				taken[k] = stems[random.Intn(len(stems))] + ends[random.Intn(len(ends))]
			}
		}
		stem := stems[random.Intn(len(stems))]
		if got, want := names.Fresh(stem, taken), fresh(stem, taken); got != want {
			t.Fatalf("Fresh of %s, %.70q: got %s, want %s", brief(stem), taken, brief(got), brief(want))
		}
	}
}

// P14.2: Fresh with as many names taken as there are variables.
func TestFreshOfMany(t *testing.T) {
	l := numbered("b", 0, mostVars)
	rand.New(rand.NewSource(20)).Shuffle(len(l), func(a, b int) { l[a], l[b] = l[b], l[a] })
	is(t, names.Fresh("b", l), "b1048576", "Fresh of b, of many taken")
	gone := slices.Index(l, "b777777")
	l[gone] = "c"
	is(t, names.Fresh("b", l), "b777777", "Fresh of b, of many taken")
}
