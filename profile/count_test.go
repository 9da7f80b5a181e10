package profile_test

import (
	"testing"

	"tabard/api"
	"tabard/profile"
)

func TestNew(t *testing.T) {
	x, y := newPair(t), newPair(t)
	x.check()
	x.enter(0)
	x.check()
	y.check()
	if !profile.Same(profile.New(), profile.New()) {
		t.Error("not the same")
	}
}

// TestFarNumbers counts methods and sites of all numbers, each another number of times.
func TestFarNumbers(t *testing.T) {
	x := newPair(t)
	for i, f := range far() {
		for range 1 + i%5 {
			x.enter(f)
		}
	}
	for i, s := range farSites() {
		for range 1 + i%4 {
			x.back(s)
		}
		x.call(s, far()[i%len(far())], far()[i*7%len(far())], far()[i%len(far())])
	}
	x.check()
}

// TestFarClasses sees objects of all numbers at one site.
func TestFarClasses(t *testing.T) {
	for i := range far() {
		x := newPair(t)
		for k := range far() {
			x.call(at(0, 0), far()[(i+k)%len(far())], far()[i])
			x.check()
		}
	}
}

// TestAsked asks what was not counted, which leaves nothing behind.
func TestAsked(t *testing.T) {
	x := sample(t)
	c := x.clone()
	for _, s := range farSites() {
		checkSite(t, x.p, x.m, s)
	}
	if x.check(); !profile.Same(x.p, c.p) {
		t.Error("asking counts")
	}
}

// great counts up to less below the greatest count: a method, a site's jumps and its classes.
func great(t *testing.T, less int) pair {
	t.Helper()
	x := newPair(t)
	for i := range 40 {
		if (1<<40-less)>>(39-i)&1 == 1 {
			x.enter(5)
			x.back(at(5, 6))
			x.call(at(5, 6), 8)
		}
		if i < 39 {
			x.doubled(1)
		}
	}
	if n := x.p.Entered(5); n != 1<<40-int64(less) {
		t.Fatal(n)
	}
	return x
}

// TestGreatestCount counts up to MaxCount, and on.
func TestGreatestCount(t *testing.T) {
	x := great(t, 3)
	for i := range int64(9) {
		x.check()
		x.enter(5)
		x.back(at(5, 6))
		x.call(at(5, 6), 8)
		want := min(api.MaxCount-2+i, api.MaxCount)
		if l := x.p.Classes(at(5, 6)); x.p.Entered(5) != want || x.p.Jumped(at(5, 6)) != want || len(l) != 1 || l[0].N != want {
			t.Fatal(i, l)
		}
	}
	x.enter(6)
	x.call(at(5, 6), 9)
	x.check()
	c := x.clone()
	c.forget(5)
	c.enter(5)
	c.check()
}

// TestGreatestSum adds counts that are less, the same and more than MaxCount together.
func TestGreatestSum(t *testing.T) {
	for less := 1; less < 5; less++ {
		for more := range 6 {
			x, y := great(t, less), newPair(t)
			for range more {
				y.enter(5)
				y.back(at(5, 6))
				y.call(at(5, 6), 8)
			}
			z := y.clone()
			z.add(x)
			x.add(y)
			x.check()
			z.check()
			if n := x.p.Entered(5); n != int64(1<<40+min(0, more-less)) || !profile.Same(x.p, z.p) {
				t.Error(less, more, n)
			}
		}
	}
	x := great(t, 1)
	x.doubled(30)
	x.check()
	if !profile.Same(x.p, x.p.Clone()) {
		t.Error("not the same")
	}
}

// TestApart is P14.4: what is counted once in a while, while much else is.
func TestApart(t *testing.T) {
	x := newPair(t)
	for i := range 40 {
		x.enter(7)
		x.back(at(7, 7))
		x.call(at(7, 7), 7)
		other := []func(){
			func() { x.enter(i) }, func() { x.back(at(7, i)) }, func() { x.back(at(i, 7)) }, func() { x.call(at(i, 7), 7) }, func() { x.call(at(7, i+8), 7, 8) }, func() { x.forget(i % 7) }, func() { x.add(newPair(t)) },
		}
		other[i%len(other)]()
	}
	x.check()
	if x.p.Entered(7) < 40 || x.p.Jumped(at(7, 7)) < 40 {
		t.Error("lost")
	}
}
