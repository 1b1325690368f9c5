package rows

import (
	"cmp"
	"math/bits"
	"slices"

	"alidade/api"
)

const wordBits = 64

// Set is a set of numbers, by words: k is in it, if the bit k mod 64 of the word k/64 is 1.
type Set []uint64

// From is the set of those of some numbers that a row may have (P22.1).
func From(l []int) Set {
	isOut := func(k int) bool { return k < 0 || k >= api.MaxRows }
	l = slices.DeleteFunc(slices.Clone(l), isOut)
	if len(l) == 0 {
		return nil
	}
	s := make(Set, slices.Max(l)/wordBits+1)
	for _, k := range l {
		s[k/wordBits] |= 1 << (k % wordBits)
	}
	return s
}

// May tells whether a set may be (P22.1).
func (s Set) May() bool { return len(s.trimmed()) == len(s) }

// List are a set's numbers, rising (P22.1).
func (s Set) List() []int {
	var l []int
	for k := range s.all {
		l = append(l, k)
	}
	return l
}

// Len is how many numbers a set has (P22.1).
func (s Set) Len() int {
	many := 0
	for _, w := range s {
		many += bits.OnesCount64(w)
	}
	return many
}

// Has tells whether a number is in a set (P22.1).
func (s Set) Has(k int) bool {
	return k >= 0 && s.word(k/wordBits)>>(k%wordBits)&1 == 1
}

// Or is what is in either of two sets (P22.1).
func (s Set) Or(t Set) Set {
	l, r := s.trimmed(), t.trimmed()
	return joined(max(len(l), len(r)), l.word, r.word)
}

// Within tells whether all of a set is in another one (P22.1).
func (s Set) Within(t Set) bool {
	for at, w := range s {
		if w&^t.word(at) != 0 {
			return false
		}
	}
	return true
}

// Same tells whether two sets are the same (P22.1).
func (s Set) Same(t Set) bool { return slices.Equal(s.trimmed(), t.trimmed()) }

// all tells a set's numbers, rising.
func (s Set) all(yield func(k int) bool) {
	for at, w := range s {
		for w != 0 {
			if !yield(wordBits*at + bits.TrailingZeros64(w)) {
				return
			}
			// The least bit goes.
			w &= w - 1
		}
	}
}

// word is a set's word at a place: behind all of them there are 0s.
func (s Set) word(at int) uint64 {
	if at < len(s) {
		return s[at]
	}
	return 0
}

// trimmed is a set without the 0s behind, in the same memory.
func (s Set) trimmed() Set {
	for len(s) > 0 && s[len(s)-1] == 0 {
		s = s[:len(s)-1]
	}
	return s
}

// compare tells how two sets that may be stand in a row.
func (s Set) compare(t Set) int {
	return cmp.Or(cmp.Compare(len(s), len(t)), slices.Compare(s, t))
}

// joined is the set of so many words, each of which has what either of two calls tells there.
func joined(words int, one, other func(at int) uint64) Set {
	s := make(Set, words)
	for at := range s {
		s[at] = one(at) | other(at)
	}
	return s
}
