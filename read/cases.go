package read

// cases are a tree: whatever stands at a leaf is so where what the tree says on the way to it is so, or not so.
type cases[T any] struct {
	when        *claim // none: this is a leaf
	then, other *cases[T]
	leaf        T
	many        int // how many leaves there are
}

// one is one case alone.
func one[T any](leaf T) *cases[T] {
	return &cases[T]{leaf: leaf, many: 1}
}

// split are some cases where something is so, and others where it is not.
func split[T any](when *claim, then, other *cases[T]) *cases[T] {
	return &cases[T]{when: when, then: then, other: other, many: then.many + other.many}
}

// together are the cases of some trees, one or more, put together, those of the first one outermost. A call makes of leaves, one of each tree, what stands at a leaf now; it must not keep the list of them.
func together[T, U any](l []*cases[T], join func(leaves []T) U) *cases[U] {
	leaves := make([]T, 0, len(l))
	var through func(t *cases[T], rest []*cases[T], leaves []T) *cases[U]
	through = func(t *cases[T], rest []*cases[T], leaves []T) *cases[U] {
		// A list may have very many trees with one case alone, so nothing is called anew for each of these.
		for t.when == nil {
			leaves = append(leaves, t.leaf)
			if len(rest) == 0 {
				return one(join(leaves))
			}
			t, rest = rest[0], rest[1:]
		}
		return split(t.when, through(t.then, rest, leaves), through(t.other, rest, leaves))
	}
	return through(l[0], l[1:], leaves)
}

// either is the formula that cases of formulas are.
func either(t *cases[claim]) claim {
	if t.when == nil {
		return t.leaf
	}
	return choice(*t.when, either(t.then), either(t.other))
}
