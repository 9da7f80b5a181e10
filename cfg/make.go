package cfg

import (
	"slices"

	"tabard/api"
)

// New is the graph of a method.
func New(f api.Func) *Graph {
	c := byAddress(f.Ops)
	g := &Graph{}
	g.cut(c.begins(f.Catches))
	g.goOn(c)
	g.catch(c, f.Catches)
	g.walk()
	g.turn()
	return g
}

// cut makes the blocks, without edges, of what tells of each place whether one begins there.
func (g *Graph) cut(begins []bool) {
	g.of = make([]int, len(begins))
	for i, is := range begins {
		if is {
			g.blocks = append(g.blocks, api.Block{From: i})
		}
		last := len(g.blocks) - 1
		g.blocks[last].To = i + 1
		g.of[i] = last
	}
}

// goOn finds the edges without a throw. Places rise as their blocks do, and each begins one.
func (g *Graph) goOn(c *code) {
	for b := range g.blocks {
		x := &g.blocks[b]
		for _, i := range c.next(x.To - 1) {
			x.Next = append(x.Next, g.of[i])
		}
	}
}

// catch finds the edges to handlers. The blocks at which catches go on are told rising, so that one that a block has already is its last one.
func (g *Graph) catch(c *code, catches []api.Catch) {
	ends := c.ends(g.of)
	target, done := none, 0
	for _, s := range c.spans(g.of, catches) {
		if s.target != target {
			target, done = s.target, 0
		}
		for k := max(s.from, done); k < s.to; k = ends[k] {
			x := &g.blocks[g.of[c.places[k]]]
			if n := len(x.Catches); n == 0 || x.Catches[n-1] != target {
				x.Catches = append(x.Catches, target)
			}
		}
		done = max(done, s.to)
	}
}

// walk goes through the blocks from the block 0 on, depth first, and so finds their order.
func (g *Graph) walk() {
	entered := make([]bool, len(g.blocks))
	var enter func(b int)
	enter = func(b int) {
		if entered[b] {
			return
		}
		entered[b] = true
		for _, to := range g.blocks[b].Next {
			enter(to)
		}
		for _, to := range g.blocks[b].Catches {
			enter(to)
		}
		g.order = append(g.order, b)
	}
	if len(g.blocks) > 0 {
		enter(0)
	}
	slices.Reverse(g.order)
	g.spots = slices.Repeat([]int{none}, len(g.blocks))
	for spot, b := range g.order {
		g.spots[b] = spot
	}
}

// turn finds the edges the other way round, and those that go back.
func (g *Graph) turn() {
	g.preds = make([][]int, len(g.blocks))
	for a := range g.Order() {
		for _, b := range g.edges(a) {
			g.preds[b] = append(g.preds[b], a)
			if g.spots[b] <= g.spots[a] {
				g.backs = append(g.backs, api.Edge{From: a, To: b})
			}
		}
	}
	for _, l := range g.preds {
		slices.Sort(l)
	}
}

// edges are the blocks to which edges go from one, however they go.
func (g *Graph) edges(b int) []int {
	return rising(slices.Concat(g.blocks[b].Next, g.blocks[b].Catches))
}
