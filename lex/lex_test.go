package lex_test

import (
	"fmt"
	"math/rand"
	"regexp"
	"slices"
	"strings"
	"testing"
	"unsafe"

	"alidade/api"
	"alidade/lex"
)

const (
	letters = "abcdefghijklmnopqrstuvwxyzABCDEFGHIJKLMNOPQRSTUVWXYZ"
	digits  = "0123456789"
	signs   = "~!@$%^&*_-+=<>.?/"
	blanks  = " \t\r\n"

	mostBytes = 1 << 16
	mostName  = 64
)

// kinds are all kinds of words, and how each of them is told by an expression.
func kinds() map[uint8]*regexp.Regexp {
	const (
		numeral = `(?:0|[1-9][0-9]*)`
		symbol  = `[a-zA-Z~!@$%^&*_+=<>.?/-][a-zA-Z0-9~!@$%^&*_+=<>.?/-]{0,63}`
	)
	l := map[uint8]*regexp.Regexp{}
	for kind, text := range map[uint8]string{
		lex.Open: `\(`, lex.Close: `\)`, lex.Numeral: numeral, lex.Decimal: numeral + `\.[0-9]+`, lex.Symbol: symbol, lex.Keyword: `:` + symbol,
	} {
		l[kind] = regexp.MustCompile(`\A` + text + `\z`)
	}
	return l
}

var (
	kindsOfWords = kinds()
	whatParts    = regexp.MustCompile(`\A(?:[ \t\r\n]|;[^\n]*)*`)
	aPiece       = regexp.MustCompile(`\A(?:[()]|[a-zA-Z0-9~!@$%^&*_+=<>.?/:-]+)`)
)

// kindOf is a text's kind, by the expressions; no text has two.
func kindOf(t *testing.T, s string) uint8 {
	t.Helper()
	found := uint8(0)
	for kind, is := range kindsOfWords {
		if is.MatchString(s) {
			if found != 0 {
				t.Fatalf("%q is of two kinds: %d and %d", s, found, kind)
			}
			found = kind
		}
	}
	return found
}

// model are a text's words, by the expressions.
func model(t *testing.T, text string) (l []lex.Word, at int, e api.Errno) {
	t.Helper()
	if len(text) > mostBytes {
		return nil, mostBytes, api.ErrTooLarge
	}
	for {
		at += len(whatParts.FindString(text[at:]))
		if at == len(text) {
			return l, 0, api.OK
		}
		piece := aPiece.FindString(text[at:])
		kind := kindOf(t, piece)
		if kind == 0 {
			return nil, at, api.ErrForm
		}
		l = append(l, lex.Word{Kind: kind, At: at, To: at + len(piece), Text: piece})
		at += len(piece)
	}
}

// brief tells a text briefly.
func brief(s string) string {
	if len(s) > 80 {
		return fmt.Sprintf("%q .. %q, %d bytes", s[:30], s[len(s)-30:], len(s))
	}
	return fmt.Sprintf("%q", s)
}

// is complains unless a call answered what is wanted.
func is[T comparable](t *testing.T, got, want T, what ...any) {
	t.Helper()
	if got != want {
		t.Errorf("%s: got %v, want %v", fmt.Sprint(what...), got, want)
	}
}

// told are a text's words, with no error.
func told(t *testing.T, text string) []lex.Word {
	t.Helper()
	l, at, e := lex.Words(text)
	if at != 0 || e != api.OK {
		t.Fatalf("Words of %s: at %d, %v", brief(text), at, e)
	}
	return l
}

// right complains unless a text's words are those wanted.
func right(t *testing.T, text string, want ...lex.Word) {
	t.Helper()
	if got := told(t, text); !slices.Equal(got, want) {
		t.Errorf("Words of %s: got %v, want %v", brief(text), got, want)
	}
}

// wrong complains unless a text has an error at a place, and nothing else is told.
func wrong(t *testing.T, text string, at int, e api.Errno) {
	t.Helper()
	l, gotAt, gotE := lex.Words(text)
	if len(l) != 0 || gotAt != at || gotE != e {
		t.Errorf("Words of %s: got %d words, at %d, %v, want none, at %d, %v", brief(text), len(l), gotAt, gotE, at, e)
	}
}

// word is a word that stands at a place.
func word(kind uint8, at int, text string) lex.Word {
	return lex.Word{Kind: kind, At: at, To: at + len(text), Text: text}
}

// of are words of these texts, each of its kind, all at 0.
func of(t *testing.T, texts ...string) []lex.Word {
	t.Helper()
	var l []lex.Word
	for _, s := range texts {
		l = append(l, word(kindOf(t, s), 0, s))
	}
	return l
}

// texts are the words' texts.
func texts(l []lex.Word) []string {
	var out []string
	for _, w := range l {
		out = append(out, w.Text)
	}
	return out
}

func TestExamples(t *testing.T) {
	right(t, "(<= x 1.5);c", word(lex.Open, 0, "("), word(lex.Symbol, 1, "<="), word(lex.Symbol, 4, "x"), word(lex.Decimal, 6, "1.5"), word(lex.Close, 9, ")"))
	wrong(t, "a 01", 2, api.ErrForm)
	wrong(t, "1.", 0, api.ErrForm)
	right(t, ":k", word(lex.Keyword, 0, ":k"))
	wrong(t, ":", 0, api.ErrForm)
	wrong(t, "a:b", 0, api.ErrForm)
	wrong(t, "x{", 1, api.ErrForm)
}

// edges are texts of each kind, and of none, at the edges.
func edges() map[uint8][]string {
	long := strings.Repeat("9", 5000)
	name := strings.Repeat("n", mostName)
	mixedName := "." + strings.Repeat("0", mostName-1)
	return map[uint8][]string{
		lex.Open:    {"("},
		lex.Close:   {")"},
		lex.Numeral: {"0", "1", "9", "10", "90", "100", "1234567890", "18446744073709551616", long, "1" + strings.Repeat("0", mostBytes)},
		lex.Decimal: {"0.0", "0.5", "1.0", "1.00", "9.9", "10.01", "0.00000", "1.5", "12.034", long + "." + long, "0." + long},
		lex.Symbol: {"a", "z", "A", "Z", "x", "<=", "=>", "-", "-1", "+1", ".", "..", ".5", ".0.", "-1.5", "a1", "a0", "x.y", "?", "/", "_", "~", "!", "@", "$", "%", "^",
			"&", "*", "=", "<", ">", "set-logic", "true", "x9!", "e1", "O0", "$0", name, name[1:], mixedName, strings.ToUpper(name), signs},
		lex.Keyword: {":a", ":Z", ":order", ":-", ":.", ":.5", ":a1", ":<=", ":?", ":" + name, ":" + name[1:], ":" + mixedName},
		0: {"", " ", "  ", "00", "01", "007", "00.5", "01.5", "000", "1.", "0.", "12.", "1..5", "1.5.", "1.5.2", "1.2.3.4", "0..0", "1.-5", "1.a", "1.5a", "1a", "0a", "0x1", "9_", "1e5",
			"1+", "1-", "0-1", "1.5-", ":", "::", ":::", "::a", ":a:", ":a:b", "a:", "a:b", "a::b", ":1", ":0", ":1a", ":0.5", "1:", "1:a", ":()", ":(", "1.5:", ".:", ":-:", "(:", "()", "((", "))", ")(",
			"(a", "a)", "a b", "a ", " a", "1 ", " 1", " 1.5", "1.5 ", "a;b", ";", ";c", "a\n", "\na", "1\n", "( ", " )", "a\x00", "\x00", "a{", "{", "}", "[", "]", "|", "|a|", "\"", "\"a\"", "'", "`", "#", "#b1",
			"\\", ",", "a,b", "\x7f", "\x80", "\xff", "a\x80", "\x80a", "\u00e9", "a\u0660", "\u0660", "\u0661.5", "1.\u0660", "\u212a", "\uff08", "\u00a0", "\v", "\f", "a\v",
			name + "n", name + ":", "n" + mixedName, ":" + name + "n", ":" + mixedName + "0", "1" + name, ":1" + name[2:], strings.Repeat("n", 1000), ":" + strings.Repeat("n", 1000), "1" + strings.Repeat("9", 300) + "x",
			"0" + long, long + ".", long + "." + long + ".", "." + long},
	}
}

func TestP12_1Numbers(t *testing.T) {
	for k, kind := range []uint8{lex.Open, lex.Close, lex.Numeral, lex.Decimal, lex.Symbol, lex.Keyword} {
		is(t, int(kind), k+1, "the kind's number")
	}
}

func TestP12_1Kind(t *testing.T) {
	for kind, l := range edges() {
		for _, s := range l {
			is(t, lex.Kind(s), kind, "Kind of ", brief(s))
			is(t, kindOf(t, s), kind, "the expressions, of ", brief(s))
		}
	}
}

func TestP12_1KindOfBytes(t *testing.T) {
	for b := range 256 {
		c := string([]byte{byte(b)})
		is(t, lex.Kind(c), kindOf(t, c), "Kind of ", brief(c))
		want := uint8(0)
		switch {
		case strings.Contains(letters, c), strings.Contains(signs, c):
			want = lex.Symbol
		case strings.Contains(digits, c):
			want = lex.Numeral
		case c == "(":
			want = lex.Open
		case c == ")":
			want = lex.Close
		}
		is(t, lex.Kind(c), want, "Kind of the byte ", b)
		for other := range 256 {
			s := c + string([]byte{byte(other)})
			is(t, lex.Kind(s), kindOf(t, s), "Kind of ", brief(s))
		}
		for _, s := range []string{":" + c, "a" + c, c + "a", "a" + c + "a", ":a" + c, "0." + c, "1." + c + "1", c + ".0", "1" + c + "0", "(" + c, c + ")"} {
			is(t, lex.Kind(s), kindOf(t, s), "Kind of ", brief(s))
		}
	}
}

func TestP12_1Words(t *testing.T) {
	for _, text := range []string{"", " ", "\t", "\r", "\n", blanks,
		";", ";;", "; a ( 1", ";\n", "; a\n; b\n", ";a\n;b", " ;\n ;", "\n;\r\n", ";\r", ";\x00\xff{",
		strings.Repeat(" ", mostBytes), strings.Repeat(";\n", mostBytes/2), ";" + strings.Repeat("{", mostBytes-1)} {
		right(t, text)
	}
	for kind, l := range edges() {
		for _, s := range l {
			if kind == 0 || len(s) > mostBytes-20 {
				continue
			}
			for ahead, behind := range map[string]string{"": "", " ": "", "\t": "\t", "\r": "\n", "\n": " ", ";c\n": ";c", ";\n;\n": ";c\n", ";;\n \r": " ;\r\n", blanks: blanks} {
				right(t, ahead+s+behind, word(kind, len(ahead), s))
			}
			at := len(s) + 1
			right(t, "("+s+")", word(lex.Open, 0, "("), word(kind, 1, s), word(lex.Close, at, ")"))
			right(t, ")"+s+"(", word(lex.Close, 0, ")"), word(kind, 1, s), word(lex.Open, at, "("))
			right(t, s+" "+s+"\n"+s, word(kind, 0, s), word(kind, at, s), word(kind, 2*at, s))
			right(t, s+";"+s+"\n"+s, word(kind, 0, s), word(kind, 2*at, s))
		}
	}
	right(t, "()((", word(lex.Open, 0, "("), word(lex.Close, 1, ")"), word(lex.Open, 2, "("), word(lex.Open, 3, "("))
	right(t, "a(b)c", word(lex.Symbol, 0, "a"), word(lex.Open, 1, "("), word(lex.Symbol, 2, "b"), word(lex.Close, 3, ")"), word(lex.Symbol, 4, "c"))
	right(t, "1(1.5):k)", word(lex.Numeral, 0, "1"), word(lex.Open, 1, "("), word(lex.Decimal, 2, "1.5"), word(lex.Close, 5, ")"), word(lex.Keyword, 6, ":k"), word(lex.Close, 8, ")"))
}

func TestP12_1Comments(t *testing.T) {
	a, b := word(lex.Symbol, 0, "a"), func(at int) lex.Word { return word(lex.Symbol, at, "b") }
	right(t, "a;b", a)
	right(t, "a;b\n", a)
	right(t, "a;b\r", a)
	right(t, "a;\rb", a)       // a CR ends no line
	right(t, "a;\nb", a, b(3)) // a comment of nothing
	right(t, "a;\r\nb", a, b(4))
	right(t, "a;;\nb", a, b(4))
	right(t, "a;x;y\nb", a, b(6))
	right(t, "a;x\n;y\nb", a, b(7))
	right(t, "a;x\n\n;y\n b;", a, b(9))
	right(t, "a;((\x00\xff\u00e9 01 :\nb", a, b(14))
	right(t, "a;\t \nb;c", a, b(5))
	wrong(t, "a;b\n{", 4, api.ErrForm)
	wrong(t, "a\\;b", 1, api.ErrForm)
}

// rest are bytes that may not stand anywhere but in a comment.
func rest() []string {
	var l []string
	for b := range 256 {
		if c := string([]byte{byte(b)}); !strings.Contains(letters+digits+signs+blanks+":();", c) {
			l = append(l, c)
		}
	}
	return l
}

func TestErrFormBytes(t *testing.T) {
	l := rest()
	is(t, len(l), 256-52-10-17-4-4, "how many bytes may not stand")
	for _, c := range l {
		wrong(t, c, 0, api.ErrForm)
		wrong(t, "a"+c, 1, api.ErrForm)
		wrong(t, c+"a", 0, api.ErrForm)
		wrong(t, "a"+c+"a", 1, api.ErrForm)
		wrong(t, "1.5"+c, 3, api.ErrForm)
		wrong(t, ":a"+c+"b", 2, api.ErrForm)
		wrong(t, "("+c+")", 1, api.ErrForm)
		wrong(t, ";c\n "+c, 4, api.ErrForm)
		wrong(t, "a "+c+" 01", 2, api.ErrForm)
		wrong(t, "a 01"+c, 2, api.ErrForm) // the piece begins ahead of it
		right(t, "a;"+c+"\nb", word(lex.Symbol, 0, "a"), word(lex.Symbol, 4, "b"))
	}
	for b := range 256 {
		c := string([]byte{byte(b)})
		for _, text := range []string{c, "a" + c, c + "a", "a" + c + "a", "1" + c, c + "1", "1" + c + "1", ":" + c, c + ":", "(" + c, c + ")", ";" + c + "a", c + c} {
			checked(t, text)
		}
	}
}

func TestErrFormPieces(t *testing.T) {
	for _, s := range edges()[0] {
		if aPiece.FindString(s) != s || s == "" {
			continue
		}
		wrong(t, s, 0, api.ErrForm)
		for ahead, words := range map[string]int{" ": 0, "a ": 1, "(": 1, ")": 1, ";c\n": 0, "x 1.5 (": 3, "a;01\n": 1} {
			for _, behind := range []string{"", " ", " b", "(", ")", ";c", "{", " 01", "\x00"} {
				wrong(t, ahead+s+behind, len(ahead), api.ErrForm)
			}
			is(t, len(told(t, ahead)), words, "how many words are ahead")
		}
	}
	wrong(t, "a 1x b 01 {", 2, api.ErrForm)
	wrong(t, "a { 1x", 2, api.ErrForm)
	wrong(t, "((a b) c:d (", 7, api.ErrForm)
	wrong(t, ";01\n01", 4, api.ErrForm)
}

func TestErrTooLarge(t *testing.T) {
	for _, unit := range []string{" ", "(", ")", "1", "\n", "() ", ";", ";\n", "ab ", "(<= x 1.5);c\n"} {
		text := strings.Repeat(unit, mostBytes/len(unit)+2)
		checked(t, text[:mostBytes-1])
		checked(t, text[:mostBytes])
		told(t, text[:mostBytes])
		wrong(t, text[:mostBytes+1], mostBytes, api.ErrTooLarge)
		wrong(t, text, mostBytes, api.ErrTooLarge)
	}
	long := strings.Repeat("9", mostBytes)
	right(t, long, word(lex.Numeral, 0, long))
	right(t, "0."+long[2:], word(lex.Decimal, 0, "0."+long[2:]))
	blank := strings.Repeat(" ", mostBytes-1)
	right(t, blank+"a", word(lex.Symbol, mostBytes-1, "a"))
	wrong(t, blank+"{", mostBytes-1, api.ErrForm)
	wrong(t, blank+":", mostBytes-1, api.ErrForm)
	wrong(t, long[1:]+"x", 0, api.ErrForm)
	// A text that is too long has no other error, wherever that would stand.
	for _, text := range []string{"{" + long, long + "{", "01" + blank, blank + "01", "a:b" + long, string(make([]byte, mostBytes+1)), strings.Repeat("\xff", 3*mostBytes)} {
		wrong(t, text, mostBytes, api.ErrTooLarge)
	}
}

func TestP12_2Join(t *testing.T) {
	is(t, lex.Join(nil), "", "of nothing")
	is(t, lex.Join([]lex.Word{}), "", "of nothing")
	for kind, l := range edges() {
		for _, s := range l {
			if kind == 0 {
				continue
			}
			is(t, lex.Join(of(t, s)), s, "of one")
			is(t, lex.Join(of(t, s, s)), s+" "+s, "of two")
			is(t, lex.Join(of(t, "(", s, ")")), "( "+s+" )", "of three")
		}
	}
	is(t, lex.Join(told(t, "(<= x 1.5);c\n :k")), "( <= x 1.5 ) :k", "of an example")
	// From where to where they stand does not matter.
	is(t, lex.Join([]lex.Word{{Kind: lex.Symbol, At: 7, To: -3, Text: "b"}, {Kind: lex.Symbol, At: -1, To: 1 << 40, Text: "a"}}), "b a", "of words out of place")
	// More than a text may have.
	is(t, lex.Join(slices.Repeat(of(t, "abc"), mostBytes)), strings.Repeat("abc ", mostBytes)[:4*mostBytes-1], "of many")
}

func TestP12_2JoinOfNone(t *testing.T) {
	for kind, l := range edges() {
		for _, s := range l {
			for k := range 256 {
				w := lex.Word{Kind: uint8(k), To: len(s), Text: s}
				want := ""
				if kind == uint8(k) && kind != 0 {
					want = s
				}
				if got := lex.Join([]lex.Word{w}); got != want {
					t.Fatalf("of %s, of the kind %d: got %s, want %s", brief(s), k, brief(got), brief(want))
				}
			}
		}
	}
	bad := []lex.Word{{}, {Kind: lex.Symbol}, {Kind: lex.Numeral, Text: "x"}, {Kind: lex.Symbol, Text: "1"}, {Kind: lex.Keyword, Text: "k"},
		{Kind: lex.Symbol, Text: "a b"}, {Kind: 7, Text: "a"}, {Text: "a"}, {Text: "01"}, {Text: " "}}
	for _, w := range bad {
		for k := range 4 {
			l := slices.Insert(of(t, "(", "a", ")"), k, w)
			is(t, lex.Join(l), "", "with ", w, " at ", k)
		}
	}
}

func TestP12_2Same(t *testing.T) {
	is(t, lex.Same(nil, nil), true, "none, none")
	is(t, lex.Same(nil, []lex.Word{}), true, "none, nothing")
	is(t, lex.Same([]lex.Word{}, nil), true, "nothing, none")
	lists := [][]lex.Word{nil, of(t, "a"), of(t, "b"), of(t, "A"), of(t, "a", "a"), of(t, "a", "b"), of(t, "b", "a"), of(t, "a", "b", "a"),
		of(t, "1"), of(t, "1.0"), of(t, "1.00"), of(t, ":a"), of(t, "("), of(t, ")"),
		{{}}, {{Kind: lex.Symbol}}, {{Text: "a"}}, {{Kind: lex.Keyword, Text: "a"}}, {{Kind: 7, Text: "a"}}, {{Kind: lex.Numeral, Text: "a"}}, {{Kind: lex.Symbol, Text: "a b"}}, {{Kind: lex.Symbol, Text: "a"}, {}}}
	for k, a := range lists {
		for n, b := range lists {
			is(t, lex.Same(a, b), k == n, a, " and ", b)
			moved := slices.Clone(b)
			for m := range moved {
				moved[m].At, moved[m].To = moved[m].At+17*m-3, -moved[m].To
			}
			is(t, lex.Same(a, moved), k == n, a, " and, elsewhere, ", b)
			is(t, lex.Same(moved, a), k == n, "elsewhere, ", b, " and ", a)
		}
	}
	is(t, lex.Same(told(t, "(a 1)"), told(t, " ( a;c\n1 )")), true, "parted otherwise")
	is(t, lex.Same(told(t, "(a1)"), told(t, "(a 1)")), false, "parted within")
	is(t, lex.Same(told(t, "(a 1)"), told(t, "(a 1")), false, "the last one is missing")
}

// checked complains unless a text's words are those that the expressions tell, and hold all that follows.
func checked(t *testing.T, text string) {
	t.Helper()
	l, at, e := lex.Words(text)
	want, wantAt, wantE := model(t, text)
	if !slices.Equal(l, want) || at != wantAt || e != wantE {
		t.Errorf("Words of %s: got %s, at %d, %v, want %s, at %d, %v", brief(text), brief(fmt.Sprint(l)), at, e, brief(fmt.Sprint(want)), wantAt, wantE)
		return
	}
	switch e {
	case api.OK:
		standRight(t, text, l)
		thereAndBack(t, l)
	case api.ErrForm:
		placeRight(t, text, at)
	}
}

// standRight complains unless words stand as they have to (P12.4).
func standRight(t *testing.T, text string, l []lex.Word) {
	t.Helper()
	at := 0
	for k, w := range l {
		if w.At < at || w.To <= w.At || w.To > len(text) || w.Text != text[w.At:w.To] || w.Kind == 0 || lex.Kind(w.Text) != w.Kind {
			t.Errorf("%s: word %d stands wrong: %v", brief(text), k, w)
			return
		}
		partsAlone(t, text, at, w.At)
		at = w.To
	}
	partsAlone(t, text, at, len(text))
}

// partsAlone complains unless what stands from one place to another one has no words.
func partsAlone(t *testing.T, text string, from, to int) {
	t.Helper()
	if between := text[from:to]; whatParts.FindString(between) != between {
		t.Errorf("%s: from %d to %d: more than what parts words", brief(text), from, to)
	}
}

// thereAndBack complains unless the words of what was joined are these words (P12.3).
func thereAndBack(t *testing.T, l []lex.Word) {
	t.Helper()
	text := lex.Join(l)
	if want := strings.Join(texts(l), " "); text != want {
		t.Errorf("Join of %v: got %s, want %s", l, brief(text), brief(want))
		return
	}
	if len(text) > mostBytes {
		wrong(t, text, mostBytes, api.ErrTooLarge)
		return
	}
	again := told(t, text)
	if !lex.Same(l, again) || !slices.Equal(texts(l), texts(again)) {
		t.Errorf("the words of %s: got %v, want %v", brief(text), again, l)
	}
	at := 0
	for k, w := range again {
		if w.At != at || w.To != at+len(l[k].Text) {
			t.Errorf("%s: word %d was written at %d, is told at %d", brief(text), k, at, w.At)
		}
		at = w.To + 1
	}
}

// placeRight complains unless the text ahead of an error's place has nothing wrong, and the rest has it at 0 (P12.6).
func placeRight(t *testing.T, text string, at int) {
	t.Helper()
	checked(t, text[:at])
	told(t, text[:at])
	wrong(t, text[at:], 0, api.ErrForm)
}

// pick is one of a list.
func pick(r *rand.Rand, l []string) string { return l[r.Intn(len(l))] }

// somePieces are words, near words, what parts them, and what may not stand.
var somePieces = []string{
	"(", ")", "(", ")", "a", "<=", "x", "-", "0", "1", "10", "1.5", "0.0", ":k", ":order", ".5",
	" ", " ", " ", "\t", "\r", "\n", "\r\n", ";c\n", ";", ";(01{\n",
	"01", "1.", ":", "a:b", "{", "\x00", "\xff", "1x", ".",
}

// fewer are those of them that are never wrong.
var fewer = []string{"(", ")", "(a", "<= ", " x ", "\n10 ", " 1.5)", " :k ", "(.5", " ", "\t", "\r\n", " ;c\n", "\n;(01{\n", " 0 "}

func TestP12_3ThereAndBack(t *testing.T) {
	r := rand.New(rand.NewSource(123))
	var all []string
	for kind, l := range edges() {
		if kind != 0 {
			all = append(all, l...)
		}
	}
	slices.Sort(all)
	for range 2000 {
		var l []lex.Word
		for range r.Intn(12) {
			s := pick(r, all)
			l = append(l, lex.Word{Kind: kindOf(t, s), At: r.Intn(99), To: r.Intn(99), Text: s})
		}
		thereAndBack(t, l)
	}
	thereAndBack(t, nil)
	half := slices.Repeat(of(t, "a"), mostBytes/2)
	thereAndBack(t, half)
	half[0].Text = "ab" // a text just as long as may be
	is(t, len(lex.Join(half)), mostBytes, "the longest text")
	thereAndBack(t, half)
	half[0].Text = "abc"
	thereAndBack(t, half)
}

func TestP12_4ShortTexts(t *testing.T) {
	const bytes = "()01.:a-; \n{"
	var all func(text string, more int)
	all = func(text string, more int) {
		checked(t, text)
		if more > 0 {
			for k := range len(bytes) {
				all(text+bytes[k:k+1], more-1)
			}
		}
	}
	all("", 4)
}

func TestP12_4LongerTexts(t *testing.T) {
	r := rand.New(rand.NewSource(124))
	for k := range 20000 {
		from := fewer
		if k%2 == 0 {
			from = somePieces
		}
		var text strings.Builder
		for range r.Intn(20) {
			text.WriteString(pick(r, from))
		}
		checked(t, text.String())
	}
	for range 5000 {
		text := make([]byte, r.Intn(12))
		for k := range text {
			text[k] = byte(r.Intn(256))
		}
		checked(t, string(text))
	}
}

// parted are words with whatever parts them, at least where there was some.
func parted(r *rand.Rand, l []lex.Word) string {
	parts := []string{" ", "  ", "\t", "\r", "\n", "\r\n", blanks, ";\n", " ;c\n", ";(01{\x00\n", ";\r\n\t", ";a\n;b\n", "\n;\xff;\n "}
	var text strings.Builder
	if r.Intn(2) == 0 {
		text.WriteString(pick(r, parts))
	}
	for k, w := range l {
		if k > 0 && (l[k-1].To < w.At || r.Intn(2) == 0) {
			text.WriteString(pick(r, parts))
		}
		text.WriteString(w.Text)
	}
	return text.String() + pick(r, append(parts, "", ";", ";c", " ;c\r", ";;\x00"))
}

func TestP12_5PartedAnew(t *testing.T) {
	r := rand.New(rand.NewSource(125))
	for range 5000 {
		var text strings.Builder
		for range r.Intn(20) {
			text.WriteString(pick(r, fewer))
		}
		l := told(t, text.String())
		anew := parted(r, l)
		if again := told(t, anew); !lex.Same(l, again) || !slices.Equal(texts(l), texts(again)) {
			t.Errorf("%q, parted anew: %q: got %v, want %v", text.String(), anew, again, l)
		}
	}
}

func TestP12_6Place(t *testing.T) {
	r := rand.New(rand.NewSource(126))
	faults := append(rest(), "01", "1.", ":", "a:b", "1x", "::", ":1", "1.5.2", strings.Repeat("n", mostName+1), ":"+strings.Repeat("n", mostName+1))
	for range 5000 {
		ahead := " "
		for range r.Intn(8) {
			ahead += pick(r, fewer)
		}
		ahead += pick(r, []string{" ", "(", ")", ";c\n", "\t"})
		text := ahead + pick(r, faults)
		for range r.Intn(4) {
			text += pick(r, []string{" ", "(", ")", ";"}) + pick(r, somePieces)
		}
		wrong(t, text, len(ahead), api.ErrForm)
		placeRight(t, text, len(ahead))
	}
}

// apart tells whether two texts share no memory.
func apart(a, b string) bool {
	if a == "" || b == "" {
		return true
	}
	from, other := uintptr(unsafe.Pointer(unsafe.StringData(a))), uintptr(unsafe.Pointer(unsafe.StringData(b)))
	return from+uintptr(len(a)) <= other || other+uintptr(len(b)) <= from
}

func TestR1Memory(t *testing.T) {
	text := strings.Clone("(assert (<= x 1.5 " + strings.Repeat("9", 500) + " :order));c")
	kept := strings.Clone(text)
	l := told(t, text)
	for _, w := range l {
		if len(w.Text) > 1 && !apart(w.Text, text) {
			t.Errorf("%s shares the text's memory", brief(w.Text))
		}
	}
	again := told(t, text)
	for k := range l {
		l[k] = lex.Word{Text: "changed"}
	}
	if want, _, _ := model(t, text); !slices.Equal(again, want) || text != kept {
		t.Error("what is told once more was changed:", again)
	}
	for _, one := range again {
		if s := lex.Join([]lex.Word{one}); len(s) > 1 && !apart(s, one.Text) {
			t.Errorf("what is joined shares the memory of %s", brief(s))
		}
	}
}

func TestR1Lists(t *testing.T) {
	l := of(t, "(", "a", ")", "1x", "b")
	kept := slices.Clone(l)
	lex.Join(l)
	lex.Join(l[:2])
	lex.Same(l, l[:3])
	lex.Same(l[:2], l)
	if !slices.Equal(l, kept) {
		t.Error("a list that was handed in changed:", l)
	}
}
