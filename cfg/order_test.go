package cfg_test

import (
	"slices"
	"testing"
)

// TestOrder has methods whose order, ways back and headers are written out.
func TestOrder(t *testing.T) {
	for _, x := range []struct {
		code    string
		catches []string
		order   []int
		backs   []edge
		headers []int
	}{
		{"nop", nil, []int{0}, nil, nil},
		{"int; if 4; int; return; int; return", nil, []int{0, 2, 1}, nil, nil},
		{"goto 0", nil, []int{0}, []edge{{0, 0}}, []int{0}},
		{"nop; goto 1", nil, []int{0, 1}, []edge{{1, 1}}, []int{1}},
		// What comes together: 0 to 1 and 2, both to 3.
		{"if 3; nop; goto 4; nop; return", nil, []int{0, 2, 1, 3}, nil, nil},
		// What is not come to has edges, but none that count: the block 1 goes round, and to 2.
		{"goto 3; nop; if 1; return", nil, []int{0, 2}, nil, nil},
		{"return; goto 0", nil, []int{0}, nil, nil},
		// A way to a lower number need not go back, one to a higher number may: 0 to 2, 2 to 1, 1 to 2.
		{"goto 2; if 2; goto 1; return", nil, []int{0, 2, 1}, []edge{{1, 2}}, []int{2}},
		{"goto 2; return; goto 1", nil, []int{0, 2, 1}, nil, nil},
		// One round within another one, and a loop that is come to at two places.
		{"nop; nop; if 1; if 0; return", nil, []int{0, 1, 2, 3}, []edge{{1, 1}, {2, 0}}, []int{0, 1}},
		{"if 2; if 2; if 1; return", nil, []int{0, 1, 2, 3}, []edge{{2, 1}}, []int{1}},
		// Next comes ahead of Catches, whatever the numbers are: the block 2 is entered first, and left first; the block 1 is entered when it is come to first.
		{"goto 2; return; return", []string{"0 1 1"}, []int{0, 1, 2}, nil, nil},
		{"goto 2; return; goto 1", []string{"0 1 1"}, []int{0, 2, 1}, nil, nil},
		{"goto 1; goto 2; return", []string{"0 1 2", "0 1 0", "2 3 2", "2 3 1"}, []int{0, 1, 2}, []edge{{0, 0}, {2, 1}, {2, 2}}, []int{0, 1, 2}},
		// An edge that is both is one: 1 to 0.
		{"nop; if 0; return", []string{"0 2 0"}, []int{0, 1}, []edge{{0, 0}}, []int{0}},
		{"if 2; goto 0; return", []string{"1 2 0"}, []int{0, 2, 1}, []edge{{1, 0}}, []int{0}},
		// They are told by the place in order of where they begin, not by its number: 3 stands ahead of 1.
		{"if 3; goto 1; nop; goto 3", []string{"3 4 0", "1 2 0"}, []int{0, 3, 1}, []edge{{3, 0}, {3, 3}, {1, 0}, {1, 1}}, []int{0, 1, 3}},
	} {
		g := held(t, fn(x.code, x.catches...))
		if l := slices.Collect(g.Order()); !slices.Equal(l, x.order) {
			t.Error("Order", x.code, l)
		}
		if l := edges(g.Back()); !slices.Equal(l, x.backs) {
			t.Error("Back", x.code, l)
		}
		if l := g.Headers(); !slices.Equal(l, x.headers) {
			t.Error("Headers", x.code, l)
		}
	}
}

// TestPreds has what goes to a block: each once, rising, and none of what is not come to.
func TestPreds(t *testing.T) {
	// 0 goes to 1 and 3; 1, 2 (which is not come to) and 3 go to 4; 4 goes to 0, and is caught at 1 and at 0.
	g := held(t, fn("if 3; goto 4; goto 4; nop; goto 0", "4 5 1", "4 5 0", "4 9 1"))
	for b, want := range [][]int{{4}, {0, 4}, nil, {0}, {1, 3}} {
		if l := g.Preds(b); !slices.Equal(l, want) {
			t.Error(b, l, "not", want)
		}
		if g.Reached(b) != (b != 2) {
			t.Error("Reached", b)
		}
	}
	// One that is not come to has none, though another such one goes to it.
	g = held(t, fn("return; goto 2; goto 1"))
	for b := range 3 {
		if l := g.Preds(b); len(l) != 0 || g.Reached(b) != (b == 0) {
			t.Error(b, l)
		}
	}
}

// TestStops leaves the iterators at each place, and begins anew.
func TestStops(t *testing.T) {
	g := held(t, fn("if 3; if 0; if 1; if 2; goto 0; goto 3", "0 6 0", "2 3 2", "0 9 5"))
	order, back := g.Order(), g.Back()
	blocks, backs := slices.Collect(g.Order()), edges(g.Back())
	if len(blocks) < 5 || len(backs) < 7 {
		t.Fatal(blocks, backs)
	}
	for stop := range blocks {
		var l []int
		for b := range order {
			l = append(l, b)
			if len(l) == stop+1 {
				break
			}
		}
		if !slices.Equal(l, blocks[:stop+1]) {
			t.Error("Order", stop, l)
		}
	}
	for stop := range backs {
		var l []edge
		for a, b := range back {
			l = append(l, edge{a, b})
			if len(l) == stop+1 {
				break
			}
		}
		if !slices.Equal(l, backs[:stop+1]) {
			t.Error("Back", stop, l)
		}
	}
	for range order {
		for range back {
			if !slices.Equal(slices.Collect(order), blocks) || !slices.Equal(edges(back), backs) {
				t.Error("not one within the other")
			}
		}
	}
}
