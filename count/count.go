// Package count counts lists up as numbers are, each member by the values that it may have, in order.
package count

import "slices"

// Is tells whether each member is one of its values.
func Is[T comparable](l []T, values func(i int) []T) bool {
	for i, x := range l {
		if !slices.Contains(values(i), x) {
			return false
		}
	}
	return true
}

// Up tells the next list: its last member that has a value more goes on to that, those behind it begin anew. Behind the last list it tells none, and false.
func Up[T comparable](l []T, values func(i int) []T) ([]T, bool) {
	next := slices.Clone(l)
	for i := len(l) - 1; i >= 0; i-- {
		all := values(i)
		at := slices.Index(all, l[i]) + 1
		if at < len(all) {
			next[i] = all[at]
			return next, true
		}
		next[i] = all[0]
	}
	return nil, false
}
