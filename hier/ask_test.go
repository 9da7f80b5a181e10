package hier_test

import (
	"slices"
	"testing"

	"tabard/api"
	"tabard/hier"
)

func TestSample(t *testing.T) {
	// D (11) and B (9) stand under A (8), C (10) under B, E (12) under Throwable, F (13) under C.
	h := held(t, lines("A", "B:A", "C:B", "D:A", "E:"+throwable, "F:C")...)
	for _, x := range []struct{ a, b, c int }{
		{8, 8, 8}, {8, 9, 8}, {10, 11, 8}, {13, 11, 8}, {13, 9, 9}, {13, 10, 10}, {13, 13, 13}, {12, 13, 0}, {12, 1, 1}, {12, 2, 1}, {2, 3, 1}, {2, 8, 0}, {0, 13, 0}, {1, 8, 0}, {0, 0, 0},
		{-1, 8, -1}, {14, 8, -1}, {-1, -1, -1}, {14, 14, -1}, {0, -1, -1}, {0, 14, -1},
	} {
		if h.Common(x.a, x.b) != x.c || h.Common(x.b, x.a) != x.c {
			t.Error("Common", x, h.Common(x.a, x.b), h.Common(x.b, x.a))
		}
	}
	for _, x := range []struct{ a, b int }{{8, 8}, {9, 8}, {10, 8}, {13, 8}, {13, 10}, {13, 0}, {12, 1}, {12, 0}, {0, 0}, {1, 0}, {7, 1}} {
		if !h.Under(x.a, x.b) || x.a != x.b && h.Under(x.b, x.a) {
			t.Error("Under", x)
		}
	}
	for _, x := range []struct{ a, b int }{{9, 11}, {10, 11}, {12, 8}, {2, 3}, {12, 2}, {-1, -1}, {-1, 0}, {0, -1}, {14, 14}, {14, 0}, {8, 14}} {
		if h.Under(x.a, x.b) || h.Under(x.b, x.a) {
			t.Error("Under", x)
		}
	}
}

// TestFollows is P7.3 and P7.4, of what New itself made.
func TestFollows(t *testing.T) {
	for _, l := range shapes() {
		h, _ := hier.New(l...)
		if h.Len() > 20 {
			continue
		}
		for a := range h.Len() {
			if !h.Under(a, a) || !h.Under(a, api.ClObject) {
				t.Error(l, a)
			}
			for b := range h.Len() {
				c := h.Common(a, b)
				if a != b && h.Under(a, b) && h.Under(b, a) || !h.Under(a, c) || !h.Under(b, c) {
					t.Error(l, a, b)
				}
				for d := range h.Len() {
					if h.Under(a, b) && h.Under(b, d) && !h.Under(a, d) || h.Under(a, d) && h.Under(b, d) && !h.Under(c, d) {
						t.Error(l, a, b, d)
					}
				}
			}
		}
	}
}

// TestRandom has lines whose names and supers are taken from a few: most sorts of errors, and hierarchies between.
func TestRandom(t *testing.T) {
	r := numbers(1)
	names := []string{"A", "B", "C", "D", "E", "F", "G", "", object, throwable, "java/lang/ClassCastException"}
	got := map[api.Errno]int{}
	for range 20000 {
		var l []api.Line
		for n := r.below(6); n > 0; n-- {
			k := r.below(len(names) - 3 + r.below(20)/19)
			l = append(l, api.Line{Name: names[k], Super: names[r.below(len(names))]})
			if r.below(3) > 0 {
				l[len(l)-1].Super = object
			}
		}
		h, e := hier.New(l...)
		m, is := meantNew(l)
		if e != is {
			t.Fatal(l, e, is)
		}
		got[e]++
		if e == api.OK && got[e]%7 == 0 {
			m.hold(t, h)
		}
	}
	for _, e := range []api.Errno{api.OK, api.ErrName, api.ErrSuper, api.ErrCycle} {
		if got[e] < 100 {
			t.Error(e, got[e])
		}
	}
}

// TestRandomTrees has classes under any others, in any order.
func TestRandomTrees(t *testing.T) {
	r := numbers(7)
	for i := range 60 {
		n := 1 + r.below(24)
		if i == 0 {
			n = 64
		}
		l := numbered(n, func(i int) int { return r.below(i+1) - 1 })
		for k := range l {
			if r.below(6) == 0 {
				l[k].Super = builtIn()[r.below(8)].Name
			}
		}
		for k := range l {
			j := r.below(k + 1)
			l[k], l[j] = l[j], l[k]
		}
		if held(t, l...) == nil {
			t.Error("refused", l)
		}
	}
}

// TestOrderStops leaves the order at each place, and begins anew.
func TestOrderStops(t *testing.T) {
	h := held(t, lines("B:A", "A", "C:B")...)
	all := slices.Collect(h.Order())
	order := h.Order()
	for stop := range all {
		var l []int
		for n := range order {
			l = append(l, n)
			if len(l) == stop+1 {
				break
			}
		}
		if !slices.Equal(l, all[:stop+1]) {
			t.Error(stop, l)
		}
	}
	if !slices.Equal(slices.Collect(order), all) {
		t.Error("not again")
	}
	for range order {
		if !slices.Equal(slices.Collect(order), all) {
			t.Error("not one within the other")
		}
	}
}

// TestNobodysElse writes to what was handed in, also behind its end, and to what was answered.
func TestNobodysElse(t *testing.T) {
	l := append(make([]api.Line, 0, 200), lines("B:A", "A", "C:A")...)
	whole := l[:200]
	h, _ := hier.New(l...)
	m, _ := meantNew(lines("B:A", "A", "C:A"))
	if !slices.Equal(l, lines("B:A", "A", "C:A")) || slices.ContainsFunc(whole[3:], func(x api.Line) bool { return x != api.Line{} }) {
		t.Error("written to")
	}
	for i := range whole {
		whole[i] = api.Line{Name: "X", Super: "Y"}
	}
	m.hold(t, h)
	for n := range h.Len() {
		subs := h.Subs(n)
		for i := range subs {
			subs[i] = 77
		}
		_ = append(h.Subs(n), 5, 6, 7)
	}
	m.hold(t, h)
	if other := held(t, lines("Z")...); other.Len() != 9 {
		t.Error(other.Len())
	}
	m.hold(t, h)
}

// TestNotMade has hierarchies that no call made.
func TestNotMade(t *testing.T) {
	for _, h := range []*hier.Hier{nil, {}, new(hier.Hier)} {
		if h.Len() != 0 {
			t.Error(h.Len())
		}
		for _, name := range []string{"", "A", object, throwable} {
			if n, is := h.Find(name); n != 0 || is {
				t.Error("Find", name, n, is)
			}
		}
		for n := range h.Order() {
			t.Error("Order", n)
		}
		for _, n := range append(far(), -2, -1, 0, 1, 7, 8, 9, 71, 72) {
			if h.Name(n) != "" || h.Super(n) != -1 || h.Depth(n) != -1 || len(h.Subs(n)) != 0 || h.Under(n, n) || h.Under(n, 0) || h.Under(0, n) || h.Common(n, n) != -1 || h.Common(n, 0) != -1 || h.Common(0, n) != -1 {
				t.Error(n)
			}
		}
	}
}

// TestReadme is what README.md shows.
func TestReadme(t *testing.T) {
	h, e := hier.New(api.Line{Name: "B", Super: "A"}, api.Line{Name: "A", Super: "java/lang/Object"})
	if e != api.OK {
		t.Fatal(e)
	}
	b, is := h.Find("B")
	if b != 8 || !is || h.Super(b) != 9 || !h.Under(b, api.ClObject) || h.Common(b, api.ClArith) != api.ClObject || h.Depth(b) != 2 || !slices.Equal(h.Subs(9), []int{8}) || h.Name(9) != "A" {
		t.Error(b, is)
	}
}
