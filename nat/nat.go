// Package nat is layer 1: naturals, by limbs of 32 bits, the least one first.
package nat

import (
	"iter"
	"math/bits"

	"alidade/api"
)

const (
	limbBits = 32
	mostBits = limbBits * api.MaxLong
)

// May tells whether a natural may be (P1.1).
func May(n []uint32) bool {
	return len(n) == 0 || len(n) <= api.MaxLong && n[len(n)-1] != 0
}

// Of is the natural that a number is (P1.1).
func Of(u uint64) []uint32 {
	return tidy([]uint32{uint32(u), uint32(u >> limbBits)})
}

// Low is the number that a natural is, if it is less than 2^64 (P1.1).
func Low(n []uint32) (uint64, bool) {
	if !May(n) || len(n) > 2 {
		return 0, false
	}
	u := uint64(0)
	for k, w := range limbs(n) {
		u |= uint64(w) << (limbBits * k)
	}
	return u, true
}

// Cmp tells how two naturals stand (P1.1).
func Cmp(a, b []uint32) int {
	switch {
	case !May(a) || !May(b):
		return 0
	case len(a) < len(b):
		return -1
	case len(a) > len(b):
		return 1
	}
	for k := len(a) - 1; k >= 0; k-- {
		if a[k] < b[k] {
			return -1
		}
		if a[k] > b[k] {
			return 1
		}
	}
	return 0
}

// Add is the sum (P1.1).
func Add(a, b []uint32) []uint32 {
	if !May(a) || !May(b) {
		return nil
	}
	if len(a) < len(b) {
		a, b = b, a
	}
	out := make([]uint32, 0, len(a)+1)
	carry := uint64(0)
	for k, w := range limbs(a) {
		sum := uint64(w)
		switch {
		case k < len(b):
			sum += uint64(b[k])
			fallthrough
		case carry > 0:
			sum += carry
			fallthrough
		default:
			out = append(out, uint32(sum))
			carry = sum >> limbBits
		}
	}
	return tidy(append(out, uint32(carry)))
}

// Sub is the difference, if there is one (P1.1).
func Sub(a, b []uint32) ([]uint32, bool) {
	if !May(a) || !May(b) || Cmp(a, b) < 0 {
		return nil, false
	}
	out := make([]uint32, 0, len(a))
	borrow := int64(0)
	for k, w := range limbs(a) {
		left := int64(w)
		switch {
		case k < len(b):
			left -= int64(b[k])
			fallthrough
		case borrow > 0:
			left -= borrow
			fallthrough
		default:
			borrow = 0
			if left < 0 {
				borrow = 1
			}
			out = append(out, uint32(left+borrow<<limbBits))
		}
	}
	return tidy(out), true
}

// Bits tells how many bits a natural has (P1.2).
func Bits(n []uint32) int {
	if !May(n) || len(n) == 0 {
		return 0
	}
	top := len(n) - 1
	return limbBits*top + bits.Len32(n[top])
}

// Bit tells whether the bit at a place is 1 (P1.2).
func Bit(n []uint32, k int) bool {
	if k < 0 || k >= Bits(n) {
		return false
	}
	return n[k/limbBits]>>(k%limbBits)&1 == 1
}

// Shl is a natural, times 2^k (P1.2).
func Shl(n []uint32, k int) []uint32 {
	// Bits are taken from mostBits, not k added to them: k may be as great as an int is.
	if !May(n) || len(n) == 0 || k < 0 || k > mostBits-Bits(n) {
		return nil
	}
	out := make([]uint32, k/limbBits, k/limbBits+len(n)+1)
	carry := uint64(0)
	for _, w := range limbs(n) {
		wide := uint64(w)<<(k%limbBits) + carry
		out = append(out, uint32(wide))
		carry = wide >> limbBits
	}
	return tidy(append(out, uint32(carry)))
}

// Shr is a natural, divided by 2^k, rounded down (P1.2).
func Shr(n []uint32, k int) []uint32 {
	if k < 0 || k >= Bits(n) {
		return nil
	}
	kept := n[k/limbBits:]
	out := make([]uint32, 0, len(kept))
	for i, w := range limbs(kept) {
		wide := uint64(w) << (limbBits - k%limbBits)
		if i > 0 {
			out[i-1] += uint32(wide)
		}
		out = append(out, uint32(wide>>limbBits))
	}
	return tidy(out)
}

// limbs tells a natural's limbs, with their places, the least one first.
func limbs(n []uint32) iter.Seq2[int, uint32] {
	return func(yield func(int, uint32) bool) {
		for k, w := range n {
			if !yield(k, w) {
				return
			}
		}
	}
}

// tidy leaves out the 0s at the end; what is too long then is 0.
func tidy(n []uint32) []uint32 {
	for len(n) > 0 && n[len(n)-1] == 0 {
		n = n[:len(n)-1]
	}
	if len(n) == 0 || len(n) > api.MaxLong {
		return nil
	}
	return n
}
