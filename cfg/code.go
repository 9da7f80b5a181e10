package cfg

import (
	"cmp"
	"slices"

	"tabard/api"
)

// code is a method's operations by their addresses, which need not rise. Here these are put in order once: linker.Op, and what asks it, goes through all operations for each address.
type code struct {
	ops    []api.Op
	places []int // by the operations' addresses, then by themselves
}

// span is places that a catch covers, as they stand by addresses, and the block at which it goes on.
type span struct {
	target int
	from   int
	to     int
}

func byAddress(ops []api.Op) *code {
	c := &code{ops: ops, places: make([]int, len(ops))}
	for i := range ops {
		c.places[i] = i
	}
	slices.SortFunc(c.places, func(a, b int) int {
		return cmp.Or(cmp.Compare(ops[a].At, ops[b].At), cmp.Compare(a, b))
	})
	return c
}

// from is where, by addresses, those begin that are not below one, and whether there is an operation at it.
func (c *code) from(at int) (int, bool) {
	return slices.BinarySearchFunc(c.places, at, func(i, at int) int { return cmp.Compare(c.ops[i].At, at) })
}

// find is the place of the first operation with an address.
func (c *code) find(at int) (int, bool) {
	k, is := c.from(at)
	if !is {
		return 0, false
	}
	return c.places[k], true
}

// jump is the place to which an operation may jump.
func (c *code) jump(x api.Op) (int, bool) {
	if !jumps(x.Kind) {
		return 0, false
	}
	return c.find(x.To)
}

// next are the places that linker.Next tells.
func (c *code) next(i int) []int {
	x := c.ops[i]
	var l []int
	if !stops(x.Kind) && i+1 < len(c.ops) {
		l = append(l, i+1)
	}
	if to, is := c.jump(x); is {
		l = append(l, to)
	}
	return rising(l)
}

// begins tells of each place whether a block begins there.
func (c *code) begins(catches []api.Catch) []bool {
	begins := make([]bool, len(c.ops))
	for i, x := range c.ops {
		if i == 0 || jumps(c.ops[i-1].Kind) || stops(c.ops[i-1].Kind) {
			begins[i] = true
		}
		if to, is := c.jump(x); is {
			begins[to] = true
		}
	}
	for _, x := range catches {
		if to, is := c.find(x.At); is {
			begins[to] = true
		}
	}
	return begins
}

// spans are what the catches cover that go on at a block, by these blocks; of is the blocks by places.
func (c *code) spans(of []int, catches []api.Catch) []span {
	var l []span
	for _, x := range catches {
		to, is := c.find(x.At)
		if !is {
			continue
		}
		s := span{target: of[to]}
		s.from, _ = c.from(x.From)
		s.to, _ = c.from(x.To)
		l = append(l, s)
	}
	slices.SortFunc(l, func(a, b span) int {
		return cmp.Or(cmp.Compare(a.target, b.target), cmp.Compare(a.from, b.from))
	})
	return l
}

// ends tells of each operation, as they stand by addresses, where the next one of another block stands: what covers many operations of a block need not ask each of them.
func (c *code) ends(of []int) []int {
	ends := make([]int, len(c.places))
	for k := len(ends) - 1; k >= 0; k-- {
		ends[k] = k + 1
		if k+1 < len(ends) && of[c.places[k]] == of[c.places[k+1]] {
			ends[k] = ends[k+1]
		}
	}
	return ends
}

// jumps tells whether operations of a kind may go on at their To.
func jumps(kind int) bool {
	switch kind {
	case api.KIf, api.KIfI, api.KIfA, api.KIfNull, api.KGoto:
		return true
	}
	return false
}

// stops tells whether operations of a kind never go on behind themselves.
func stops(kind int) bool {
	switch kind {
	case api.KGoto, api.KReturn, api.KThrow:
		return true
	}
	return false
}
