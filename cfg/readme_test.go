package cfg_test

import (
	"slices"
	"testing"

	"tabard/cfg"
)

// TestReadme is what README.md shows.
func TestReadme(t *testing.T) {
	// iconst_5, istore_0, iinc 0 -1, iload_0, ifne to the iinc, iload_0, ireturn.
	g := cfg.New(linked(t, nil, 8, 59, 132, 0, 255, 26, 154, 255, 252, 26, 172))
	l := g.Blocks()
	if len(l) != 3 || l[1].From != 2 || l[1].To != 5 || !slices.Equal(l[1].Next, []int{1, 2}) {
		t.Error(l)
	}
	if b, is := g.Of(4); b != 1 || !is {
		t.Error(b, is)
	}
	if l := slices.Collect(g.Order()); !slices.Equal(l, []int{0, 1, 2}) {
		t.Error(l)
	}
	if l := edges(g.Back()); !slices.Equal(l, []edge{{1, 1}}) {
		t.Error(l)
	}
	if !slices.Equal(g.Headers(), []int{1}) || !slices.Equal(g.Preds(1), []int{0, 1}) || !g.Reached(2) {
		t.Error(g.Headers(), g.Preds(1))
	}
}
