package cfg_test

import (
	"iter"
	"slices"
	"testing"

	"tabard/api"
	"tabard/cfg"
	"tabard/linker"
)

// What the document says, kept the plainest way: each operation, each block and each edge is asked for itself.

// edge is an edge that goes back.
type edge struct{ from, to int }

type meant struct {
	blocks []api.Block
	order  []int
}

// meantBegins are the places at which a block begins, rising.
func meantBegins(f api.Func) []int {
	var l []int
	for i := range f.Ops {
		is := i == 0
		for k, x := range f.Ops {
			jump := slices.Contains([]int{32, 33, 34, 35, 36}, x.Kind)
			is = is || jump && slices.Contains(linker.Next(f, k), i)
			is = is || k+1 == i && (jump || x.Kind == 37 || x.Kind == 48)
		}
		for _, c := range f.Catches {
			at, there := linker.Op(f, c.At)
			is = is || there && at == i
		}
		if is {
			l = append(l, i)
		}
	}
	return l
}

// blockOf is the block in which a place stands.
func blockOf(l []api.Block, i int) int {
	return slices.IndexFunc(l, func(x api.Block) bool { return x.From <= i && i < x.To })
}

func meantNew(f api.Func) meant {
	var m meant
	begins := meantBegins(f)
	for b, from := range begins {
		to := len(f.Ops)
		if b+1 < len(begins) {
			to = begins[b+1]
		}
		m.blocks = append(m.blocks, api.Block{From: from, To: to})
	}
	for b := range m.blocks {
		x := &m.blocks[b]
		for _, i := range linker.Next(f, x.To-1) {
			x.Next = append(x.Next, blockOf(m.blocks, i))
		}
		for target, y := range m.blocks {
			if meantCatches(f, *x, y.From) {
				x.Catches = append(x.Catches, target)
			}
		}
		slices.Sort(x.Next)
	}
	m.walk()
	return m
}

// meantCatches tells whether a catch that covers one of a block's operations goes on at a place.
func meantCatches(f api.Func, x api.Block, place int) bool {
	for i := x.From; i < x.To; i++ {
		for c := range linker.Covers(f, i) {
			if at, is := linker.Op(f, c.At); is && at == place {
				return true
			}
		}
	}
	return false
}

// walk goes depth first by a list of what is still to be done, the next thing last: a block is to be entered, or to be left, which is told by its number below nought.
func (m *meant) walk() {
	if len(m.blocks) == 0 {
		return
	}
	entered := map[int]int{}
	todo := []int{0}
	for len(todo) > 0 {
		b := todo[len(todo)-1]
		todo = todo[:len(todo)-1]
		if b < 0 {
			m.order = append([]int{-1 - b}, m.order...)
			continue
		}
		if entered[b]++; entered[b] > 1 {
			continue
		}
		todo = append(todo, -1-b)
		ways := slices.Concat(m.blocks[b].Next, m.blocks[b].Catches)
		slices.Reverse(ways)
		todo = append(todo, ways...)
	}
}

// goes tells whether an edge goes from a block to another one.
func (m meant) goes(a, b int) bool {
	return slices.Contains(m.blocks[a].Next, b) || slices.Contains(m.blocks[a].Catches, b)
}

func (m meant) reached(b int) bool { return slices.Contains(m.order, b) }

func (m meant) preds(b int) []int {
	var l []int
	for a := range m.blocks {
		if m.reached(a) && m.goes(a, b) {
			l = append(l, a)
		}
	}
	return l
}

func (m meant) backs() []edge {
	var l []edge
	for spot, a := range m.order {
		for b := range m.blocks {
			if m.goes(a, b) && slices.Contains(m.order[:spot+1], b) {
				l = append(l, edge{a, b})
			}
		}
	}
	return l
}

func (m meant) headers() []int {
	var l []int
	for b := range m.blocks {
		if slices.ContainsFunc(m.backs(), func(x edge) bool { return x.to == b }) {
			l = append(l, b)
		}
	}
	return l
}

func sameBlock(a, b api.Block) bool {
	return a.From == b.From && a.To == b.To && slices.Equal(a.Next, b.Next) && slices.Equal(a.Catches, b.Catches)
}

func edges(s iter.Seq2[int, int]) []edge {
	var l []edge
	for a, b := range s {
		l = append(l, edge{a, b})
	}
	return l
}

// is holds a graph against what is meant.
func (m meant) is(t *testing.T, g *cfg.Graph) {
	t.Helper()
	if l := g.Blocks(); !slices.EqualFunc(l, m.blocks, sameBlock) {
		t.Error("Blocks", l, "not", m.blocks)
	}
	if l := slices.Collect(g.Order()); !slices.Equal(l, m.order) {
		t.Error("Order", l, "not", m.order)
	}
	if l := edges(g.Back()); !slices.Equal(l, m.backs()) {
		t.Error("Back", l, "not", m.backs())
	}
	if l := g.Headers(); !slices.Equal(l, m.headers()) {
		t.Error("Headers", l, "not", m.headers())
	}
	asked := append(far(), len(m.blocks), len(m.blocks)+1)
	for b := range m.blocks {
		if l := g.Preds(b); !slices.Equal(l, m.preds(b)) {
			t.Error("Preds", b, l, "not", m.preds(b))
		}
		if is := g.Reached(b); is != m.reached(b) {
			t.Error("Reached", b, is)
		}
	}
	for _, b := range asked {
		if l := g.Preds(b); len(l) != 0 || g.Reached(b) {
			t.Error("no block", b, l)
		}
	}
	m.isOf(t, g)
}

func (m meant) isOf(t *testing.T, g *cfg.Graph) {
	t.Helper()
	n := 0
	for b, x := range m.blocks {
		n = x.To
		for i := x.From; i < x.To; i++ {
			if k, is := g.Of(i); k != b || !is {
				t.Error("Of", i, k, is)
			}
		}
	}
	for _, i := range append(far(), n, n+1) {
		if k, is := g.Of(i); k != 0 || is {
			t.Error("Of", i, k, is)
		}
	}
}

// held makes a method's graph, and holds it against what is meant and what follows.
func held(t *testing.T, f api.Func) *cfg.Graph {
	t.Helper()
	kept := linker.Clone(api.Program{Funcs: []api.Func{f}})
	m := meantNew(f)
	g := cfg.New(f)
	m.is(t, g)
	follows(t, f, g)
	m.is(t, cfg.New(f))
	if !linker.Same(kept, api.Program{Funcs: []api.Func{f}}) {
		t.Error("written to", f)
	}
	if t.Failed() {
		t.Fatal(f.Ops, f.Catches)
	}
	return g
}

// follows is P10.4 to P10.6, of what New itself made.
func follows(t *testing.T, f api.Func, g *cfg.Graph) {
	t.Helper()
	l := g.Blocks()
	at := 0
	for _, x := range l {
		if x.From != at || x.To <= x.From {
			t.Error("stands", x)
		}
		at = x.To
		for i := x.From; i+1 < x.To; i++ {
			if next := linker.Next(f, i); !slices.Equal(next, []int{i + 1}) {
				t.Error("within", x, i, next)
			}
		}
	}
	if at != len(f.Ops) {
		t.Error("ends", at)
	}
	order := slices.Collect(g.Order())
	backs := edges(g.Back())
	for spot, a := range order {
		for _, b := range slices.Concat(l[a].Next, l[a].Catches) {
			if !slices.Contains(backs, edge{a, b}) && !slices.Contains(order[spot+1:], b) {
				t.Error("forward", a, b)
			}
		}
	}
	ways := closed(l)
	for b := range l {
		if g.Reached(b) != slices.Contains(ways, b) || g.Reached(b) != slices.Contains(order, b) {
			t.Error("a way", b)
		}
	}
	if len(order) != len(ways) {
		t.Error("once", order)
	}
}

// closed are the blocks to which a way goes from the block 0.
func closed(l []api.Block) []int {
	var ways []int
	if len(l) > 0 {
		ways = []int{0}
	}
	for i := 0; i < len(ways); i++ {
		for b := range l {
			if (slices.Contains(l[ways[i]].Next, b) || slices.Contains(l[ways[i]].Catches, b)) && !slices.Contains(ways, b) {
				ways = append(ways, b)
			}
		}
	}
	return ways
}
