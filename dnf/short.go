package dnf

import (
	"cmp"
	"slices"
	"sort"

	"alidade/api"
	"alidade/atom"
)

// numbered gives each of some atoms a number: as they stand in their row, those that are the same the same one. What may not be is the same as none, and has one of its own.
func numbered(l []api.Atom) []int {
	var may, mayNot []int
	for k, a := range l {
		if atom.May(a) {
			may = append(may, k)
		} else {
			mayNot = append(mayNot, k)
		}
	}
	slices.SortFunc(may, func(j, k int) int { return atom.Compare(l[j], l[k]) })
	numbers, next := make([]int, len(l)), 0
	for at, k := range may {
		if at > 0 && !atom.Same(l[may[at-1]], l[k]) {
			next++
		}
		numbers[k] = next
	}
	for _, k := range mayNot {
		next++
		numbers[k] = next
	}
	return numbers
}

// shortened are sets, made short; some may be sure to stay.
func shortened(l []set, sure []bool) []set {
	var left []set
	for _, k := range short(l, sure) {
		left = append(left, l[k])
	}
	return left
}

// short are the places of those sets that stay, rising, when some are made short; some may be sure to stay.
func short(l []set, sure []bool) []int {
	isOpen := func(k int) bool { return k >= len(sure) || !sure[k] }
	var row []int
	for k := range l {
		row = append(row, k)
	}
	if !slices.ContainsFunc(row, isOpen) {
		return row
	}
	slices.SortFunc(row, func(j, k int) int { return cmp.Or(l[j].compare(l[k]), cmp.Compare(j, k)) })
	// Of those that are the same the first one stays.
	row = slices.CompactFunc(row, func(j, k int) bool { return l[j].compare(l[k]) == 0 })
	var sorted []set
	for _, k := range row {
		sorted = append(sorted, l[k])
	}
	hasAllOfAnother := asked(sorted)
	row = slices.DeleteFunc(row, func(k int) bool { return isOpen(k) && hasAllOfAnother(l[k]) })
	slices.Sort(row)
	return row
}

// asked tells by a closure whether one of some sets has all numbers of another one of them. They stand in their row, no two the same; so those that begin alike stand together, and none of them is looked at, if a number of what they have alike is missing.
func asked(sorted []set) func(s set) bool {
	return func(s set) bool {
		size := s.size()
		var hasAllOfOne func(l []set) bool
		hasAllOfOne = func(l []set) bool {
			first := l[0]
			// Below that number they are all alike.
			from := first.differs(l[len(l)-1])
			switch {
			case first.lacking(s) < from:
				return false
			case !first.has(from):
				// What they have alike is all that the first one has: that may be the set itself.
				return first.size() < size
			}
			for len(l) > 0 {
				theirs := l[0].next(from)
				own := s.next(theirs)
				if own == none {
					return false
				}
				// Those are left out whose next number is not the set's, but less.
				past := own
				if own == theirs {
					past++
				}
				many := sort.Search(len(l), func(k int) bool { return l[k].next(from) >= past })
				if own == theirs && hasAllOfOne(l[:many]) {
					return true
				}
				l = l[many:]
			}
			return false
		}
		return hasAllOfOne(sorted)
	}
}
