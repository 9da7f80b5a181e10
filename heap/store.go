package heap

import "slices"

// store has rows of cells, one behind the other in one list; they are told by their numbers, from 0 on.
type store[C comparable] struct {
	cells []C
	ends  []int // of each row, where it ends in the cells
}

// add is a new row of n cells, which stands in the store.
func (s *store[C]) add(n int) []C {
	from := len(s.cells)
	s.cells = append(s.cells, make([]C, n)...)
	s.ends = append(s.ends, len(s.cells))
	return s.cells[from:]
}

// row is one that was added, as it stands in the store.
func (s *store[C]) row(i int) []C {
	from := 0
	if i > 0 {
		from = s.ends[i-1]
	}
	return s.cells[from:s.ends[i]]
}

func (s *store[C]) clone() store[C] {
	return store[C]{slices.Clone(s.cells), slices.Clone(s.ends)}
}

// same holds the ends, too: rows of other lengths may have the same cells in all.
func (s *store[C]) same(other *store[C]) bool {
	return slices.Equal(s.ends, other.ends) && slices.Equal(s.cells, other.cells)
}
