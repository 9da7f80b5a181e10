package profile_test

import (
	"slices"
	"testing"

	"tabard/api"
	"tabard/profile"
)

// TestHot has methods of many counts, and of the same ones, in all sorts of orders.
func TestHot(t *testing.T) {
	n := numbers(2)
	for range 60 {
		x := newPair(t)
		for range n.below(60) {
			x.enter(n.below(12) - 3)
		}
		x.check()
	}
}

// TestHotAsksOfMethods counts sites alone: no method was entered.
func TestHotAsksOfMethods(t *testing.T) {
	x := newPair(t)
	x.back(at(1, 2))
	x.call(at(3, 4), 5)
	x.check()
	for _, least := range []int64{-1, 0, 1} {
		if l := slices.Collect(x.p.Hot(least)); len(l) != 0 {
			t.Error(least, l)
		}
	}
}

// TestHotStops leaves the order at each place, and begins anew.
func TestHotStops(t *testing.T) {
	x := sample(t)
	hot := x.p.Hot(1)
	all := x.m.hot(1)
	for stop := range all {
		var l []int
		for f := range hot {
			l = append(l, f)
			if len(l) == stop+1 {
				break
			}
		}
		if !slices.Equal(l, all[:stop+1]) {
			t.Error(stop, l)
		}
	}
	for range hot {
		if !slices.Equal(slices.Collect(hot), all) {
			t.Error("not one within the other")
		}
	}
}

// TestHotTellsWhatWas counts on, forgets and adds, after the iterator was asked for, and while it is gone through.
func TestHotTellsWhatWas(t *testing.T) {
	x := sample(t)
	hot, all := x.p.Hot(1), x.m.hot(1)
	fresh := profile.New().Hot(0)
	changes := []func(){func() { x.enter(99) }, func() { x.enter(0); x.enter(0); x.enter(0) }, func() { x.forget(3) }, func() { x.doubled(2) }, func() { x.forget(99) }}
	for i, change := range changes {
		var l []int
		for f := range hot {
			l = append(l, f)
			if len(l) == 2 {
				change()
			}
		}
		if !slices.Equal(l, all) {
			t.Error(i, l)
		}
		x.check()
	}
	for f := range fresh {
		t.Error(f)
	}
}

// TestOrderDoesNotMatter counts the same in many orders: all answers are the same, each time.
func TestOrderDoesNotMatter(t *testing.T) {
	n := numbers(9)
	var all []event
	for i := range 60 {
		all = append(all, event{what: []string{"enter", "back", "call"}[i%3], site: at(i%7, i%2), class: i % 4})
	}
	first := newPair(t)
	for range 40 {
		x := newPair(t)
		for i := range all {
			k := n.below(i + 1)
			all[i], all[k] = all[k], all[i]
		}
		for _, y := range all {
			switch y.what {
			case "enter":
				x.enter(y.site.Func)
			case "back":
				x.back(y.site)
			default:
				x.call(y.site, y.class)
			}
		}
		if len(first.m.events) == 0 {
			first = x
		}
		x.check()
		check(t, x.p, first.m)
		if !profile.Same(x.p, first.p) {
			t.Fatal("not the same")
		}
	}
}

// TestForget lets go of each method of a sample, and of such as there are not.
func TestForget(t *testing.T) {
	for _, f := range append(far(), 3, 4, 5, -4, 8, 9) {
		x := sample(t)
		x.forget(f)
		x.check()
		x.forget(f)
		x.check()
		// It is counted anew.
		x.enter(f)
		x.back(at(f, 4))
		x.call(at(f, 4), 12, 8)
		x.check()
		if k := x.p.Kind(at(f, 4)); k != api.CallPoly {
			t.Error(f, k)
		}
	}
	x := sample(t)
	for _, s := range x.m.sites() {
		x.forget(s.Func)
	}
	x.check()
	if !profile.Same(x.p, profile.New()) {
		t.Error("something is left")
	}
}

// TestForgetMega lets go of a site's being mega, too.
func TestForgetMega(t *testing.T) {
	x := newPair(t)
	x.call(at(1, 0), 1, 2, 3, 4, 5)
	x.call(at(0, 1), 1, 2, 3, 4, 5)
	x.forget(1)
	x.check()
	x.call(at(1, 0), 5)
	x.check()
}
