package value

import (
	"cmp"
	"slices"

	"boscage/api"
)

// bag is rows that are put in order by their places, so that they themselves stay where they are.
type bag []api.Row

// compare holds two places against each other. Where the rows are at the same place in the order, the earlier one goes ahead: so any way of sorting keeps them as they stood.
func (x bag) compare(i, k int) int {
	if c := CompareRows(x[i], x[k]); c != 0 {
		return c
	}
	return cmp.Compare(i, k)
}

// places tells at which places the rows stand, the least row first.
func (x bag) places() []int {
	l := make([]int, len(x))
	for i := range l {
		l[i] = i
	}
	slices.SortFunc(l, x.compare)
	return l
}

// Sorted puts rows in order. The rows are copies: whoever handed in the list may write into its rows as well.
func Sorted(l []api.Row) []api.Row {
	out := make([]api.Row, len(l))
	for i, place := range bag(l).places() {
		out[i] = slices.Clone(l[place])
	}
	return out
}

// SameBag tells whether two bags are the same.
func SameBag(a, b []api.Row) bool {
	if len(a) != len(b) {
		return false
	}
	other := bag(b).places()
	for i, place := range bag(a).places() {
		if CompareRows(a[place], b[other[i]]) != 0 {
			return false
		}
	}
	return true
}
