package fm

import "alidade/api"

// Compare is how ends of a room are held against each other.
func Compare(p, q api.Rat) int { return compare(p, q) }
