package cfg_test

import (
	"slices"
	"testing"

	"tabard/api"
	"tabard/cfg"
)

// randomFunc is any method: addresses twice and in any order, jumps to nowhere, handlers of nothing; or, if it is tidy, addresses that rise, and jumps to them.
func randomFunc(r *numbers, most int, tidy bool) api.Func {
	all := []int{0, api.KNop, api.KInt, api.KLCmp, api.KIf, api.KIfI, api.KIfA, api.KIfNull, api.KIf, api.KGoto, api.KReturn, api.KGetStat, api.KThrow, 99, -api.KGoto}
	var f api.Func
	n := r.below(most)
	for i := range n {
		x := api.Op{At: i, Kind: all[r.below(len(all))], To: r.below(n)}
		if !tidy {
			x.At, x.To = r.below(n+1)-1, r.below(n+2)-1
		}
		f.Ops = append(f.Ops, x)
	}
	for range r.below(5) {
		f.Catches = append(f.Catches, api.Catch{From: r.below(n+2) - 1, To: r.below(n+3) - 1, At: r.below(n+1) - r.below(2), Class: r.below(9)})
	}
	return f
}

// TestRandom has methods of all sorts.
func TestRandom(t *testing.T) {
	r := numbers(5)
	loops, hidden, caught := 0, 0, 0
	for i := range 30000 {
		g := held(t, randomFunc(&r, 4+i%12, i%2 == 0))
		l := g.Blocks()
		loops += min(len(g.Headers()), 1)
		hidden += len(l) - len(slices.Collect(g.Order()))
		for _, b := range l {
			caught += len(b.Catches)
		}
	}
	for i := range 60 {
		held(t, randomFunc(&r, 60, i%2 == 0))
	}
	if loops < 5000 || hidden < 5000 || caught < 5000 {
		t.Error(loops, hidden, caught)
	}
}

// TestShort has all methods of three operations, each with each address and each way, and a handler or none.
func TestShort(t *testing.T) {
	handlers := []string{"", "0 1 2", "1 3 0", "0 3 1", "1 2 1"}
	for n := range 4 * 4 * 4 * 4 * 4 * 4 {
		f := api.Func{}
		left := n
		for range 3 {
			kind := []int{api.KNop, api.KIf, api.KGoto, api.KReturn}[left%4]
			f.Ops = append(f.Ops, api.Op{At: len(f.Ops), Kind: kind, To: left / 4 % 4})
			left /= 16
		}
		for _, s := range handlers {
			if s != "" {
				f.Catches = fn("nop", s).Catches
			}
			held(t, f)
		}
	}
}

// TestNobodysElse writes to what was handed in, also behind its end, and to what was answered.
func TestNobodysElse(t *testing.T) {
	sample := func() api.Func { return fn("if 3; if 0; if 1; nop; return; goto 0", "0 9 0", "1 3 5", "0 9 5") }
	f := sample()
	m := meantNew(f)
	f.Ops = append(make([]api.Op, 0, 20), f.Ops...)
	f.Catches = append(make([]api.Catch, 0, 20), f.Catches...)
	ops, catches := f.Ops[:20], f.Catches[:20]
	g := cfg.New(f)
	order, back := g.Order(), g.Back()
	if slices.ContainsFunc(ops[6:], func(x api.Op) bool { return x != api.Op{} }) || slices.ContainsFunc(catches[3:], func(x api.Catch) bool { return x != api.Catch{} }) {
		t.Error("written to")
	}
	for i := range ops {
		ops[i] = api.Op{At: 7, Kind: api.KGoto, To: 7}
	}
	clear(catches)
	m.is(t, g)
	l := g.Blocks()
	for b := range l {
		spoil(l[b].Next)
		spoil(l[b].Catches)
		l[b].From, l[b].To = 77, 77
		spoil(g.Preds(b))
	}
	l = append(g.Blocks(), api.Block{From: 77})
	for b := range l {
		l[b].Next = append(l[b].Next, 77)
		l[b].Catches = append(l[b].Catches, 77)
	}
	spoil(g.Headers())
	m.is(t, g)
	if !slices.Equal(slices.Collect(order), m.order) || !slices.Equal(edges(back), m.backs()) {
		t.Error("not what was there when it was asked for")
	}
	// What is put behind one list of an answer is in no other.
	l = g.Blocks()
	for b := range l {
		_ = append(l[b].Next, 77, 78)
		_ = append(l[b].Catches, 77, 78)
	}
	if !slices.EqualFunc(l, m.blocks, sameBlock) {
		t.Error("shared", l)
	}
	// One graph is nothing to another one.
	held(t, fn("goto 0"))
	m.is(t, g)
}

// spoil writes to a list, and behind its end.
func spoil(l []int) {
	l = l[:cap(l)]
	for i := range l {
		l[i] = 77
	}
}

// TestNotMade has graphs that no call made.
func TestNotMade(t *testing.T) {
	for _, g := range []*cfg.Graph{nil, {}, new(cfg.Graph)} {
		meant{}.is(t, g)
		for n := range 3 {
			if b, is := g.Of(n); b != 0 || is || g.Reached(n) || len(g.Preds(n)) != 0 {
				t.Error(n)
			}
		}
		if g.Order() == nil || g.Back() == nil {
			t.Error("no iterator")
		}
	}
	// One of no operations is made, and has as little.
	g := cfg.New(api.Func{Catches: []api.Catch{{From: -1, To: 9}}})
	if g == nil {
		t.Fatal("nil")
	}
	meant{}.is(t, g)
}
