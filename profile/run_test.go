package profile_test

import (
	"testing"

	"tabard/profile"
)

// step does one call; methods, places and classes are few, so that they are met again.
func (n *numbers) step(x, other pair) {
	x.Helper()
	s := at(n.below(6)-1, n.below(3))
	switch n.below(16) {
	case 0:
		x.forget(s.Func)
	case 1:
		if n.below(3) == 0 {
			x.add(other)
		}
	case 2:
		if n.below(4) == 0 {
			x.doubled(n.below(9))
		}
	case 3, 4, 5:
		x.enter(s.Func)
	case 6, 7, 8:
		x.back(s)
	default:
		x.call(s, n.below(2+3*s.At))
	}
}

// TestRuns holds long runs of calls against what the document says; now and then a clone goes on.
func TestRuns(t *testing.T) {
	kinds := map[int]int{}
	for seed := range 60 {
		n := numbers(seed)
		x := newPair(t)
		kept := x.clone()
		for i := range 200 {
			n.step(x, kept)
			if i%25 == 0 {
				x.check()
				kept.check()
				if profile.Same(x.p, kept.p) != x.m.same(kept.m) {
					t.Fatal(seed, i)
				}
			}
			if n.below(40) == 0 {
				kept = x
				x = x.clone()
			}
		}
		x.check()
		kept.check()
		for _, s := range x.m.sites() {
			kinds[x.m.kind(s)]++
		}
	}
	for kind := range 4 {
		if kinds[kind] == 0 {
			t.Error("no site of the kind", kind)
		}
	}
}
