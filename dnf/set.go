package dnf

import (
	"cmp"
	"iter"
	"math"
	"math/bits"
	"slices"
)

// What is told where there is no number: none is less than all of them, far is greater.
const (
	none = -1
	far  = math.MaxInt
)

// word is those of 64 numbers, from 64 times its place on, whose bits are 1.
type word struct {
	at   int
	bits uint64
}

// set is numbers, by words that rise, none of them 0. As many sets may be made of the same few thousand numbers, they are kept short.
type set []word

// setOf is the set of some numbers.
func setOf(numbers []int) set {
	var s set
	for _, n := range slices.Sorted(slices.Values(numbers)) {
		if len(s) == 0 || s[len(s)-1].at != n/64 {
			s = append(s, word{at: n / 64})
		}
		s[len(s)-1].bits |= 1 << (n % 64)
	}
	return s
}

// size is how many numbers a set has.
func (s set) size() int {
	many := 0
	for _, w := range s {
		many += bits.OnesCount64(w.bits)
	}
	return many
}

// next is a set's first number from one on.
func (s set) next(from int) int {
	at, end := 0, len(s)
	for at < end {
		if mid := (at + end) / 2; s[mid].at < from/64 {
			at = mid + 1
		} else {
			end = mid
		}
	}
	if at < len(s) && s[at].at == from/64 {
		if left := s[at].bits >> (from % 64); left != 0 {
			return from + bits.TrailingZeros64(left)
		}
		at++
	}
	if at == len(s) {
		return none
	}
	return s[at].first()
}

// has tells whether a number is in a set.
func (s set) has(n int) bool { return s.next(n) == n }

// all tells a set's numbers, rising.
func (s set) all() iter.Seq[int] {
	return func(yield func(n int) bool) {
		for n := s.next(0); n != none && yield(n); n = s.next(n + 1) {
		}
	}
}

// or is what is in one of two sets.
func (s set) or(t set) set {
	var both set
	for v, w := range sideBySide(s, t) {
		both = append(both, word{v.at, v.bits | w.bits})
	}
	return both
}

// differs is the first number that is in just one of two sets.
func (s set) differs(t set) int {
	for v, w := range sideBySide(s, t) {
		if v.bits != w.bits {
			return word{v.at, v.bits ^ w.bits}.first()
		}
	}
	return far
}

// lacking is the first number of a set that another one has not.
func (s set) lacking(t set) int {
	for v, w := range sideBySide(s, t) {
		if more := v.bits &^ w.bits; more != 0 {
			return word{v.at, more}.first()
		}
	}
	return far
}

// compare tells how two sets stand in their row, number by number: what has no number any more is ahead.
func (s set) compare(t set) int {
	n := s.differs(t)
	if n == far {
		return 0
	}
	return cmp.Compare(s.next(n), t.next(n))
}

// first is a word's first number.
func (w word) first() int { return 64*w.at + bits.TrailingZeros64(w.bits) }

// sideBySide tells the words of two sets, place by place, 0 where one of them has none.
func sideBySide(s, t set) iter.Seq2[word, word] {
	return func(yield func(v, w word) bool) {
		left, right := s, t
		for len(left) > 0 || len(right) > 0 {
			at := min(left.start(), right.start())
			v, w := word{at: at}, word{at: at}
			if left.start() == at {
				v, left = left[0], left[1:]
			}
			if right.start() == at {
				w, right = right[0], right[1:]
			}
			if !yield(v, w) {
				return
			}
		}
	}
}

// start is where a set's first word stands.
func (s set) start() int {
	if len(s) == 0 {
		return far
	}
	return s[0].at
}
