package gauss_test

import (
	"cmp"
	"maps"
	"math/big"
	"slices"

	"alidade/api"
	"alidade/atom"
)

// A model goes by the words, over math/big: each atom is made anew, whether it has the variable or not, with no number made shorter ahead of its canonical form.

// fact is an atom over the quotients: what stands in a map is not 0.
type fact struct {
	kind  uint8
	coefs map[int]*big.Int
	add   *big.Int
}

// value is a whole number as math/big has it.
func value(n api.Int) *big.Int {
	v := new(big.Int)
	for _, w := range slices.Backward(n.Limbs) {
		v.Or(v.Lsh(v, 32), big.NewInt(int64(w)))
	}
	if n.Neg {
		v.Neg(v)
	}
	return v
}

// number is the whole number that one of math/big is.
func number(v *big.Int) api.Int {
	n := api.Int{Neg: v.Sign() < 0}
	left := new(big.Int).Abs(v)
	for ; left.Sign() > 0; left.Rsh(left, 32) {
		n.Limbs = append(n.Limbs, uint32(new(big.Int).And(left, big.NewInt(1<<32-1)).Int64()))
	}
	return n
}

// facts are atoms, as the model has them; atoms the other way about.
func facts(l list) []fact {
	return each(len(l), func(k int) fact {
		f := fact{l[k].Kind, map[int]*big.Int{}, value(l[k].Term.Add)}
		for _, p := range l[k].Term.Parts {
			f.coefs[p.Var] = value(p.Coef)
		}
		return f
	})
}
func atoms(l []fact) list {
	return each(len(l), func(k int) api.Atom {
		a := api.Atom{Kind: l[k].kind, Term: api.Term{Add: number(l[k].add)}}
		for _, v := range l[k].vars() {
			a.Term.Parts = append(a.Term.Parts, api.Part{Var: v, Coef: number(l[k].coefs[v])})
		}
		return a
	})
}

// vars are a fact's variables, rising; coef is that of one of them, or 0.
func (f fact) vars() []int { return slices.Sorted(maps.Keys(f.coefs)) }
func (f fact) coef(v int) *big.Int {
	if c := f.coefs[v]; c != nil {
		return c
	}
	return new(big.Int)
}

// limbs are those of its longest number.
func (f fact) limbs() int {
	most := f.add.BitLen()
	for _, c := range f.coefs {
		most = max(most, c.BitLen())
	}
	return (most + 31) / 32
}

// canonical is a fact's canonical form, and its truth.
func (f fact) canonical() (fact, uint8) {
	if len(f.coefs) == 0 {
		sign := f.add.Sign()
		if sign == 0 && f.kind != api.Lt || sign < 0 && f.kind != api.Eq {
			return f, atom.Yes
		}
		return f, atom.No
	}
	g := new(big.Int).Abs(f.add)
	for _, c := range f.coefs {
		g.GCD(nil, nil, g, new(big.Int).Abs(c))
	}
	if f.kind == api.Eq && f.coefs[f.vars()[0]].Sign() < 0 {
		g.Neg(g)
	}
	c := fact{f.kind, map[int]*big.Int{}, new(big.Int).Quo(f.add, g)}
	for v := range f.coefs {
		c.coefs[v] = new(big.Int).Quo(f.coefs[v], g)
	}
	return c, atom.Open
}

// compare tells how two facts stand in their row.
func compare(f, g fact) int {
	place := map[uint8]int{api.Eq: 0, api.Le: 1, api.Lt: 2}
	vars, others := f.vars(), g.vars()
	for k := range min(len(vars), len(others)) {
		if by := cmp.Or(cmp.Compare(place[f.kind], place[g.kind]), cmp.Compare(vars[k], others[k]), f.coefs[vars[k]].Cmp(g.coefs[others[k]])); by != 0 {
			return by
		}
	}
	return cmp.Or(cmp.Compare(place[f.kind], place[g.kind]), cmp.Compare(len(vars), len(others)), f.add.Cmp(g.add))
}

// conjunction is what facts are as a conjunction, and their truth; it pays.
func conjunction(l []fact, spent *api.Budget) (out []fact, truth uint8) {
	for _, f := range l {
		c, is := f.canonical()
		if is == atom.No {
			truth = atom.No
		}
		if is != atom.Open {
			continue
		}
		spent.Steps++
		spent.Limbs = max(spent.Limbs, c.limbs())
		at, has := slices.BinarySearchFunc(out, c, compare)
		if !has {
			out = slices.Insert(out, at, c)
		}
	}
	if truth == atom.No {
		return nil, atom.No
	}
	spent.Rows = max(spent.Rows, len(out))
	return out, atom.Open
}

// gone are the other facts, when a variable has gone by one of them: |a| r less b s times the sign of a.
func gone(l []fact, at, v int) []fact {
	var out []fact
	a := l[at].coef(v)
	abs, sign := new(big.Int).Abs(a), big.NewInt(int64(a.Sign()))
	for k, f := range l {
		if k == at {
			continue
		}
		less := new(big.Int).Mul(f.coef(v), sign)
		become := func(of, by *big.Int) *big.Int {
			of = new(big.Int).Mul(abs, of)
			return of.Sub(of, new(big.Int).Mul(less, by))
		}
		g := fact{f.kind, map[int]*big.Int{}, become(f.add, l[at].add)}
		for _, w := range append(f.vars(), l[at].vars()...) {
			if c := become(f.coef(w), l[at].coef(w)); w != v && c.Sign() != 0 {
				g.coefs[w] = c
			}
		}
		out = append(out, g)
	}
	return out
}

// chosen is the first equation that has one of some variables, and which one of them, as they stand, it has first.
func chosen(l []fact, vars []int) (at, v int, is bool) {
	for at, f := range l {
		if f.kind != api.Eq {
			continue
		}
		for _, v := range vars {
			if f.coefs[v] != nil {
				return at, v, true
			}
		}
	}
	return 0, 0, false
}

// modelAll is what All tells by some variables, and what is spent for it; by none it is Put.
func modelAll(l list, vars []int) result {
	var spent api.Budget
	out, truth := conjunction(facts(l), &spent)
	var went []int
	for {
		at, v, is := chosen(out, vars)
		if !is {
			break
		}
		out, truth = conjunction(gone(out, at, v), &spent)
		went = append(went, v)
	}
	var left []int
	for k, v := range vars {
		if !slices.Contains(went, v) && !slices.Contains(vars[:k], v) {
			left = append(left, v)
		}
	}
	return result{out: atoms(out), left: left, truth: truth, spent: spent}
}
