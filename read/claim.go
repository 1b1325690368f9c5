package read

import (
	"slices"

	"alidade/api"
	"alidade/term"
	"alidade/whole"
)

// claim is a formula, how many nodes it has, and how deep it is. Parts of it may be parts of others as well: none of them is changed.
type claim struct {
	said        api.Formula
	size, depth int
}

// made is a claim of an Op, and of kids.
func made(op uint8, kids ...claim) claim {
	c := claim{said: api.Formula{Op: op}, size: 1}
	for _, kid := range kids {
		c.said.Kids = append(c.said.Kids, kid.said)
		c.size += kid.size
		c.depth = max(c.depth, kid.depth)
	}
	c.depth++
	return c
}

// denied is that the only claim is not so.
func denied(l []claim) claim { return made(api.Not, l...) }

// all is that all claims are so.
func all(l []claim) claim { return made(api.And, l...) }

// some is that one of the claims is so.
func some(l []claim) claim { return made(api.Or, l...) }

// implied is that the last one of the claims is so, if all others are.
func implied(l []claim) claim {
	last := len(l) - 1
	ahead := l[0]
	if last > 1 {
		ahead = made(api.And, l[:last]...)
	}
	return made(api.Or, made(api.Not, ahead), l[last])
}

// choice is that one claim is so where another one is, and a third one where that is not.
func choice(when, then, other claim) claim {
	return made(api.Or, made(api.And, when, then), made(api.And, made(api.Not, when), other))
}

// copied is a formula with memory of its own, no two parts of which share any.
func copied(f api.Formula) api.Formula {
	g := api.Formula{Op: f.Op, Vars: slices.Clone(f.Vars)}
	g.Atom = api.Atom{Kind: f.Atom.Kind, Term: term.Add(f.Atom.Term, api.Term{}), Mod: whole.Abs(f.Atom.Mod)}
	for _, kid := range f.Kids {
		g.Kids = append(g.Kids, copied(kid))
	}
	return g
}
