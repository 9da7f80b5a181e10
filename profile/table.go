package profile

import (
	"cmp"
	"slices"

	"tabard/api"
)

// table is counts by whatever can be told apart: methods, sites, classes. It has no row of a count that is 0, so that tables of the same counts are the same.
type table[K comparable] map[K]int64

// add adds to a count, and tells it; the greatest count stays.
func (t table[K]) add(k K, n int64) int64 {
	sum := min(t[k]+n, api.MaxCount)
	t[k] = sum
	return sum
}

// join adds the counts of another table.
func (t table[K]) join(other table[K]) {
	for k, n := range other {
		t.add(k, n)
	}
}

// without is a map without the keys that go. It is a new one, as a map keeps the room of what is deleted from it, and each call that goes through it would take time for that.
func without[K comparable, V any](m map[K]V, goes func(K) bool) map[K]V {
	kept := map[K]V{}
	for k, v := range m {
		if !goes(k) {
			kept[k] = v
		}
	}
	return kept
}

// row is a method or a class, and its count.
type row struct {
	key int
	n   int64
}

// ranked is the rows with at least that count: the greatest count first, of the same counts the least key first.
func ranked(t table[int], least int64) []row {
	var l []row
	for k, n := range t {
		if n >= least {
			l = append(l, row{k, n})
		}
	}
	slices.SortFunc(l, func(a, b row) int {
		return cmp.Or(cmp.Compare(b.n, a.n), cmp.Compare(a.key, b.key))
	})
	return l
}
