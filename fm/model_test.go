package fm_test

import (
	"encoding/binary"
	"maps"
	"math/big"
	"slices"

	"alidade/api"
	"alidade/atom"
	"alidade/rat"
)

// A model goes by the words, over math/big: each pair is made as b s and a r, with no number made shorter ahead of its canonical form, and rows are held against each other one by one.

// fact is a row over the quotients: what stands in the map is not 0; where it comes from rises.
type fact struct {
	kind  uint8
	coefs map[int]*big.Int
	add   *big.Int
	from  []int
}

// value is a whole number as math/big has it.
func value(n api.Int) *big.Int {
	b := make([]byte, 0, 4*len(n.Limbs))
	for _, w := range slices.Backward(n.Limbs) {
		b = binary.BigEndian.AppendUint32(b, w)
	}
	v := new(big.Int).SetBytes(b)
	if n.Neg {
		v.Neg(v)
	}
	return v
}

// number is the whole number that one of math/big is, and quotient the quotient.
func number(v *big.Int) api.Int {
	n := api.Int{Neg: v.Sign() < 0}
	b := v.FillBytes(make([]byte, (v.BitLen()+31)/32*4))
	for ; len(b) > 0; b = b[:len(b)-4] {
		n.Limbs = append(n.Limbs, binary.BigEndian.Uint32(b[len(b)-4:]))
	}
	return n
}
func quotient(v *big.Rat) api.Rat { return api.Rat{Num: number(v.Num()), Den: number(v.Denom())} }

// factOf is a row, as the model has it; rowOf is the other way about.
func factOf(r row) fact {
	f := fact{r.Atom.Kind, map[int]*big.Int{}, value(r.Atom.Term.Add), r.From.List()}
	for _, p := range r.Atom.Term.Parts {
		f.coefs[p.Var] = value(p.Coef)
	}
	return f
}
func rowOf(f fact) row {
	a := api.Atom{Kind: f.kind, Term: api.Term{Add: number(f.add)}}
	for _, v := range f.vars() {
		a.Term.Parts = append(a.Term.Parts, api.Part{Var: v, Coef: number(f.coefs[v])})
	}
	return from(a, f.from...)
}

// vars are a fact's variables, rising; coef is that of one of them, or 0.
func (f fact) vars() []int { return slices.Sorted(maps.Keys(f.coefs)) }
func (f fact) coef(v int) *big.Int {
	if c := f.coefs[v]; c != nil {
		return c
	}
	return new(big.Int)
}

// limbs are those of its longest number.
func (f fact) limbs() int {
	most := f.add.BitLen()
	for _, c := range f.coefs {
		most = max(most, c.BitLen())
	}
	return (most + 31) / 32
}

// canonical is a fact's canonical form, and its truth.
func (f fact) canonical() (fact, uint8) {
	if len(f.coefs) == 0 {
		sign := f.add.Sign()
		if sign == 0 && f.kind != api.Lt || sign < 0 && f.kind != api.Eq {
			return f, atom.Yes
		}
		return f, atom.No
	}
	g := new(big.Int).Abs(f.add)
	for _, c := range f.coefs {
		g.GCD(nil, nil, g, new(big.Int).Abs(c))
	}
	if f.kind == api.Eq && f.coefs[f.vars()[0]].Sign() < 0 {
		g.Neg(g)
	}
	c := fact{f.kind, map[int]*big.Int{}, new(big.Int).Quo(f.add, g), f.from}
	for v := range f.coefs {
		c.coefs[v] = new(big.Int).Quo(f.coefs[v], g)
	}
	return c, atom.Open
}

// same tells whether two facts are one.
func (f fact) same(g fact) bool {
	isSame := func(a, b *big.Int) bool { return a.Cmp(b) == 0 }
	return f.kind == g.kind && maps.EqualFunc(f.coefs, g.coefs, isSame) && isSame(f.add, g.add) && slices.Equal(f.from, g.from)
}

// joined is b s and a r, and what it comes from.
func joined(up, low fact, v int) fact {
	a, b := up.coef(v), new(big.Int).Abs(low.coef(v))
	sum := func(s, r *big.Int) *big.Int { return new(big.Int).Add(new(big.Int).Mul(b, s), new(big.Int).Mul(a, r)) }
	all := append(slices.Clone(up.from), low.from...)
	slices.Sort(all)
	j := fact{api.Le, map[int]*big.Int{}, sum(up.add, low.add), slices.Compact(all)}
	if up.kind == api.Lt || low.kind == api.Lt {
		j.kind = api.Lt
	}
	for _, w := range append(up.vars(), low.vars()...) {
		if c := sum(up.coef(w), low.coef(w)); w != v && c.Sign() != 0 {
			j.coefs[w] = c
		}
	}
	return j
}

// modelDrop is what Drop tells, and what is spent for it.
func modelDrop(l list, v int) result {
	var stay, ups, lows []fact
	for _, r := range l {
		f := factOf(r)
		switch f.coef(v).Sign() {
		case 1:
			ups = append(ups, f)
		case -1:
			lows = append(lows, f)
		default:
			stay = append(stay, f)
		}
	}
	for _, up := range ups {
		for _, low := range lows {
			stay = append(stay, joined(up, low, v))
		}
	}
	got := modelPut(stay)
	got.spent.Rows = max(got.spent.Rows, len(ups)*len(lows))
	return got
}

// modelPut are facts, put together.
func modelPut(l []fact) (got result) {
	var out []fact
	for _, f := range l {
		c, truth := f.canonical()
		if truth == atom.No {
			got.truth = atom.No
		}
		if truth != atom.Open {
			continue
		}
		got.spent.Steps++
		got.spent.Limbs = max(got.spent.Limbs, c.limbs())
		if !slices.ContainsFunc(out, c.same) {
			out = append(out, c)
		}
	}
	if got.truth == atom.No {
		return got
	}
	got.spent.Rows = len(out)
	for _, f := range out {
		got.out = append(got.out, rowOf(f))
	}
	return got
}

// modelBetween is what Between tells, word by word.
func modelBetween(l list, v int, values []api.Rat) (*big.Rat, bool) {
	var low, up *big.Rat
	x := new(big.Rat)
	if trueBy(l, v, values, x) {
		return x, true
	}
	for _, r := range l {
		coef := factOf(r).coef(v)
		if coef.Sign() == 0 {
			continue
		}
		// The row's value is 0 there.
		at := exact(r.Atom.Term, with(values, v, api.Rat{}))
		at.Neg(at.Quo(at, new(big.Rat).SetInt(coef)))
		switch {
		case r.Atom.Kind == api.Eq:
			return at, trueBy(l, v, values, at)
		case coef.Sign() > 0 && (up == nil || at.Cmp(up) < 0):
			up = at
		case coef.Sign() < 0 && (low == nil || at.Cmp(low) > 0):
			low = at
		}
	}
	switch {
	case low != nil && up != nil:
		x.Mul(x.Add(low, up), big.NewRat(1, 2))
	case low != nil:
		x.Add(low, big.NewRat(1, 1))
	case up != nil:
		x.Sub(up, big.NewRat(1, 1))
	}
	return x, trueBy(l, v, values, x)
}

// trueBy tells whether all rows are true by values, a variable's being another one.
func trueBy(l list, v int, values []api.Rat, x *big.Rat) bool {
	for _, r := range l {
		sum := exact(r.Atom.Term, with(values, v, api.Rat{}))
		sum.Add(sum, new(big.Rat).Mul(x, new(big.Rat).SetInt(factOf(r).coef(v))))
		if s := sum.Sign(); s > 0 || s == 0 && r.Atom.Kind == api.Lt || s < 0 && r.Atom.Kind == api.Eq {
			return false
		}
	}
	return true
}

// exact is a term's value, as math/big has it.
func exact(t api.Term, values []api.Rat) *big.Rat {
	sum := new(big.Rat).SetInt(value(t.Add))
	for _, p := range t.Parts {
		if p.Var < len(values) && rat.May(values[p.Var]) {
			q := new(big.Rat).SetFrac(value(values[p.Var].Num), value(values[p.Var].Den))
			sum.Add(sum, q.Mul(q, new(big.Rat).SetInt(value(p.Coef))))
		}
	}
	return sum
}
