package apart

import (
	"maps"
	"slices"

	"alidade/api"
	"alidade/logic"
	"alidade/term"
)

// supply gives out new variables, from next on, but for some.
type supply struct {
	next   int
	except []int // next, or behind it; they rise
}

// supplied has the new variables for a formula, if that may be, and there are enough of them.
func supplied(f api.Formula, next int) (s supply, e api.Errno) {
	switch {
	case !logic.May(f):
		return s, api.ErrForm
	case next < 0:
		return s, api.ErrArg
	}
	free := logic.Free(f)
	at, _ := slices.BinarySearch(free, next)
	except := free[at:]
	if many := binds(f); many > 0 && many > api.MaxVars-next-len(except) {
		return s, api.ErrTooLarge
	}
	return supply{next, except}, api.OK
}

// take gives out one.
func (s *supply) take() int {
	for len(s.except) > 0 && s.except[0] == s.next {
		s.next++
		s.except = s.except[1:]
	}
	v := s.next
	s.next++
	return v
}

// apart is a formula made apart, where variables that are bound around it became others.
func (s *supply) apart(f api.Formula, became map[int]int) api.Formula {
	g := api.Formula{Op: f.Op}
	switch f.Op {
	case api.Is:
		return renamed(f.Atom, became)
	case api.Exists, api.Forall:
		own := map[int]int{}
		for _, v := range f.Vars {
			own[v] = s.take()
			g.Vars = append(g.Vars, own[v])
		}
		became = carried(became, f.Kids[0])
		// What is bound here hides what was bound further out by the same variable.
		maps.Copy(became, own)
	}
	for _, kid := range f.Kids {
		g.Kids = append(g.Kids, s.apart(kid, became))
	}
	return g
}

// carried is a copy of what variables became, for a formula: no more of it than variables that stand there, as many small formulas may stand within a quantifier of many Vars.
func carried(became map[int]int, f api.Formula) map[int]int {
	inner := map[int]int{}
	var carry func(f api.Formula)
	carry = func(f api.Formula) {
		for _, p := range f.Atom.Term.Parts {
			if v, is := became[p.Var]; is {
				inner[p.Var] = v
			}
		}
		for _, kid := range f.Kids {
			carry(kid)
		}
	}
	carry(f)
	return inner
}

// renamed is an atom of what its variables became, as a formula. No two of them become the same, as a new one is none that is free.
func renamed(a api.Atom, became map[int]int) api.Formula {
	var from, to []int
	for _, p := range a.Term.Parts {
		if v, is := became[p.Var]; is {
			from, to = append(from, p.Var), append(to, v)
		}
	}
	a.Term, _ = term.Rename(a.Term, from, to)
	return logic.Is(a)
}
