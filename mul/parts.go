package mul

import "alidade/nat"

// fewLimbs is how many limbs are still multiplied one by one; from there on parting pays.
const fewLimbs = 64

// times is the product of two, however long it is.
func times(a, b []uint32) []uint32 {
	if len(a) < len(b) {
		a, b = b, a
	}
	half := (len(a) + 1) / 2
	switch {
	case len(b) < fewLimbs:
		return byLimbs(a, b)
	case len(b) <= half:
		return byPieces(a, b)
	}
	return byHalves(half, func(of taking) []uint32 { return times(of(a), of(b)) })
}

// square is the product of a natural with itself, however long it is.
func square(a []uint32) []uint32 {
	if len(a) < fewLimbs {
		return squareByLimbs(a)
	}
	return byHalves((len(a)+1)/2, func(of taking) []uint32 { return square(of(a)) })
}

// byLimbs is a product, by each limb of the shorter one, b.
func byLimbs(a, b []uint32) []uint32 {
	out := make([]uint32, len(a)+len(b))
	for k, w := range b {
		out[k+len(a)] = addTimes(out[k:k+len(a)], a, w)
	}
	return trim(out)
}

// squareByLimbs is a square: what two limbs at two places make is made once, and doubled.
func squareByLimbs(a []uint32) []uint32 {
	out := make([]uint32, 2*len(a))
	for k, w := range a {
		out[k+len(a)] = addTimes(out[2*k+1:k+len(a)], a[k+1:], w)
	}
	carry := uint64(0)
	for k, w := range a {
		own := uint64(w) * uint64(w)
		low := uint64(out[2*k])<<1 + uint64(uint32(own)) + carry
		high := uint64(out[2*k+1])<<1 + own>>limbBits + low>>limbBits
		out[2*k], out[2*k+1] = uint32(low), uint32(high)
		carry = high >> limbBits
	}
	return trim(out)
}

// byPieces is a product with a long one, a: its pieces, no longer than b, are multiplied one by one.
func byPieces(a, b []uint32) []uint32 {
	out := make([]uint32, len(a)+len(b))
	for at := 0; at < len(a); at += len(b) {
		add(out[at:], times(piece(a, at, at+len(b)), b))
	}
	return trim(out)
}

// A taking tells what of a long natural is multiplied: one of its halves, or both, added.
type taking func(n []uint32) []uint32

// byHalves is a product of what has two halves, the low ones half limbs long: the product of the low ones, that of the high ones, and that of both, added, which has in it what is made crosswise.
func byHalves(half int, product func(of taking) []uint32) []uint32 {
	lowHalf := func(n []uint32) []uint32 { return piece(n, 0, half) }
	highHalf := func(n []uint32) []uint32 { return piece(n, half, len(n)) }
	low, high := product(lowHalf), product(highHalf)
	cross := product(func(n []uint32) []uint32 { return nat.Add(lowHalf(n), highHalf(n)) })
	sub(cross, low)
	sub(cross, high)
	out := make([]uint32, 4*half)
	copy(out, low)
	copy(out[2*half:], high)
	add(out[half:], trim(cross))
	return trim(out)
}

// piece is the natural that stands in another one from a place to another, with no room behind it.
func piece(n []uint32, from, to int) []uint32 {
	to = from + len(trim(n[from:min(to, len(n))]))
	return n[from:to:to]
}

// addTimes adds a, times w, to out, which is as long as a, and tells what is carried.
func addTimes(out, a []uint32, w uint32) uint32 {
	carry := uint64(0)
	for k, v := range a {
		wide := uint64(v)*uint64(w) + uint64(out[k]) + carry
		out[k] = uint32(wide)
		carry = wide >> limbBits
	}
	return uint32(carry)
}

// add adds n to out, which has room for the sum.
func add(out, n []uint32) {
	carry := uint64(0)
	for k := 0; k < len(n) || carry > 0; k++ {
		carry += uint64(out[k])
		if k < len(n) {
			carry += uint64(n[k])
		}
		out[k] = uint32(carry)
		carry >>= limbBits
	}
}

// sub takes n from out, which is not less.
func sub(out, n []uint32) {
	borrow := uint64(0)
	for k := 0; k < len(n) || borrow > 0; k++ {
		less := borrow
		if k < len(n) {
			less += uint64(n[k])
		}
		left := uint64(out[k]) - less
		out[k] = uint32(left)
		borrow = left >> 63
	}
}
