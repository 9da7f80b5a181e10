package profile_test

import (
	"testing"

	"tabard/api"
	"tabard/profile"
)

// steps are ways in which a profile goes on from the sample, each another one; the first does nothing.
func steps() []func(x pair) {
	return []func(x pair){
		func(x pair) {},
		func(x pair) { x.enter(3) }, func(x pair) { x.enter(4) }, func(x pair) { x.enter(1) }, func(x pair) { x.enter(3); x.enter(3) },
		func(x pair) { x.back(at(3, 4)) }, func(x pair) { x.back(at(4, 3)) }, func(x pair) { x.back(at(3, 5)) }, func(x pair) { x.back(at(9, 9)) },
		func(x pair) { x.call(at(3, 4), 8) }, func(x pair) { x.call(at(3, 4), 9) }, func(x pair) { x.call(at(3, 5), 9) }, func(x pair) { x.call(at(3, 5), 8) }, func(x pair) { x.call(at(9, 9), 8) },
		func(x pair) { x.call(at(4, 3), 12) }, func(x pair) { x.call(at(4, 3), 11) }, func(x pair) { x.call(at(1, 0), 8) }, func(x pair) { x.call(at(1, 0), 9) },
		func(x pair) { x.forget(3) }, func(x pair) { x.forget(1) }, func(x pair) { x.forget(4) }, func(x pair) { x.forget(-4) },
		func(x pair) { x.doubled(1) }, func(x pair) { x.doubled(50) },
		// What comes to where another way comes.
		func(x pair) { x.call(at(1, 0), 12) }, func(x pair) { x.call(at(4, 3), 13) }, func(x pair) { x.forget(99) }, func(x pair) { x.enter(99); x.forget(99) }, func(x pair) { x.add(newPair(x.T)) },
		func(x pair) { x.doubled(51) }, func(x pair) { x.doubled(50); x.enter(3) }, func(x pair) { x.call(at(3, 5), 8); x.call(at(3, 5), 9) }, func(x pair) { x.call(at(3, 5), 9, 8) },
	}
}

// TestSame holds all ways against each other.
func TestSame(t *testing.T) {
	var all []pair
	for _, step := range steps() {
		x := sample(t)
		step(x)
		x.check()
		all = append(all, x)
	}
	twice := 0
	for i, x := range all {
		for k, y := range all {
			if profile.Same(x.p, y.p) != x.m.same(y.m) {
				t.Error(i, k, profile.Same(x.p, y.p))
			}
			if i != k && x.m.same(y.m) {
				twice++
			}
		}
	}
	if twice < 10 {
		t.Error("few ways come to the same", twice)
	}
}

// TestSameButMega has two sites with the same classes and counts, of which one is mega.
func TestSameButMega(t *testing.T) {
	x, y := newPair(t), newPair(t)
	x.call(at(0, 0), 1, 2, 3, 4)
	y.call(at(0, 0), 1, 2, 3, 4, 5)
	if profile.Same(x.p, y.p) || profile.Same(y.p, x.p) {
		t.Error("the same")
	}
	x.call(at(0, 0), 9)
	if !profile.Same(x.p, y.p) {
		t.Error("not the same")
	}
}

// TestClone goes on from a clone, and from what was cloned, each on a way of its own.
func TestClone(t *testing.T) {
	for i, one := range steps() {
		for k, other := range steps() {
			x := sample(t)
			c := x.clone()
			if c.p == x.p || !profile.Same(x.p, c.p) || !profile.Same(c.p, x.p) {
				t.Fatal("a clone is another one")
			}
			one(x)
			other(c)
			if i != k && i*k != 0 { // One of them alone, and both on one way, are enough to hold whole.
				continue
			}
			x.check()
			c.check()
			if profile.Same(x.p, c.p) != x.m.same(c.m) {
				t.Fatal(i, k)
			}
		}
	}
}

// TestNotMade has profiles that no call made.
func TestNotMade(t *testing.T) {
	for _, p := range []*profile.Profile{nil, {}, new(profile.Profile)} {
		for range 2 {
			for _, s := range farSites() {
				if p.Enter(s.Func) != 0 || p.Back(s) != 0 || p.Call(s, s.At) != 0 || p.Entered(s.Func) != 0 || p.Jumped(s) != 0 || p.Kind(s) != api.CallNone || p.Classes(s) != nil {
					t.Error(s)
				}
				if class, is := p.Main(s); class != 0 || is {
					t.Error(s, class, is)
				}
				p.Forget(s.Func)
			}
			for f := range p.Hot(0) {
				t.Error(f)
			}
		}
		if p.Clone() != nil {
			t.Error("Clone")
		}
		if profile.Same(p, p) || profile.Same(p, profile.New()) || profile.Same(profile.New(), p) || profile.Same(p, nil) || profile.Same(nil, p) {
			t.Error("Same")
		}
	}
}
