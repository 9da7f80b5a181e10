package verify

// least is places as a heap: no place is less than the one at the front.
type least []int

func (l least) Len() int           { return len(l) }
func (l least) Less(i, k int) bool { return l[i] < l[k] }
func (l least) Swap(i, k int)      { l[i], l[k] = l[k], l[i] }

// Push puts a place behind the others.
func (l *least) Push(x any) {
	if place, is := x.(int); is {
		*l = append(*l, place)
	}
}

// Pop takes the last place away.
func (l *least) Pop() any {
	last := len(*l) - 1
	place := (*l)[last]
	*l = (*l)[:last]
	return place
}
