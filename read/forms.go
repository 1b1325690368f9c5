package read

import (
	"math"

	"alidade/api"
	"alidade/lex"
	"alidade/sexp"
)

const (
	anyNumber = math.MaxInt

	// This is no word, so no list of another kind has it ahead.
	divisible = "(_ divisible"
)

// form is what a list may be by what stands ahead in it: how many pieces it has behind that, whether the first one is a list of pairs, the sort of the logic that alone has it (or none), and how it is read.
type form struct {
	least, most int
	pairs       bool
	alone       string
	read        func(r *reader, n sexp.Node) (value, fault)
}

// forms are all of them, by what stands ahead.
func forms() map[string]form {
	return map[string]form{
		"not":     {least: 1, most: 1, read: ofFormulas(denied)},
		"and":     {least: 0, most: anyNumber, read: ofFormulas(all)},
		"or":      {least: 0, most: anyNumber, read: ofFormulas(some)},
		"=>":      {least: 2, most: anyNumber, read: ofFormulas(implied)},
		"=":       {least: 2, most: 2, read: compared(api.Eq, less)},
		"<=":      {least: 2, most: 2, read: compared(api.Le, less)},
		"<":       {least: 2, most: 2, read: compared(api.Lt, less)},
		">=":      {least: 2, most: 2, read: compared(api.Le, turned)},
		">":       {least: 2, most: 2, read: compared(api.Lt, turned)},
		divisible: {least: 1, most: 1, alone: sorts[api.Whole], read: (*reader).divides},
		"exists":  {least: 2, most: 2, pairs: true, read: quantified(api.Exists)},
		"forall":  {least: 2, most: 2, pairs: true, read: quantified(api.Forall)},
		"let":     {least: 2, most: 2, pairs: true, read: (*reader).let},
		"ite":     {least: 3, most: 3, read: (*reader).ite},
		"+":       {least: 2, most: anyNumber, read: ofTerms(always(total))},
		"-":       {least: 1, most: anyNumber, read: ofTerms(always(less))},
		"*":       {least: 2, most: 2, read: ofTerms(product)},
		"/":       {least: 2, most: 2, alone: sorts[api.Real], read: ofTerms(quotient)},
	}
}

// ahead is what stands ahead in a list, if a form may have it there.
func ahead(n sexp.Node) string {
	if len(n.Kids) > 0 && isDivisible(n.Kids[0]) {
		return divisible
	}
	return sexp.Head(n)
}

// isDivisible tells whether a node is what stands ahead in a list that says that a number above 0 divides a term.
func isDivisible(n sexp.Node) bool {
	if sexp.Head(n) != "_" || len(n.Kids) != 3 {
		return false
	}
	word, number := n.Kids[1], n.Kids[2]
	return word.Text == "divisible" && number.Kind == lex.Numeral && number.Text != "0"
}

// fits tells whether a list of this form may have some pieces behind what stands ahead.
func (f form) fits(pieces []sexp.Node) bool {
	if len(pieces) < f.least || len(pieces) > f.most {
		return false
	}
	return !f.pairs || len(pieces[0].Kids) > 0
}
