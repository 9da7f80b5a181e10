package verify

import "container/heap"

// waiting is the places that wait. The map says which ones these are, so that none stands in the heap twice; the heap says which one is the least.
type waiting struct {
	places map[int]struct{}
	order  least
}

// add makes a place wait, if it does not.
func (w *waiting) add(place int) {
	if _, is := w.places[place]; is {
		return
	}
	if w.places == nil {
		w.places = map[int]struct{}{}
	}
	w.places[place] = struct{}{}
	heap.Push(&w.order, place)
}

// next is the least place that waits, which then waits no more; false, if none does.
func (w *waiting) next() (int, bool) {
	if len(w.order) == 0 {
		return 0, false
	}
	place := w.order[0]
	heap.Pop(&w.order)
	delete(w.places, place)
	return place, true
}
