package profile_test

import (
	"math"
	"testing"

	"tabard/api"
	"tabard/profile"
)

// far are numbers of which some would be others of them, if they were cut.
func far() []int {
	return []int{math.MinInt, math.MinInt + 1, -1 << 32, math.MinInt32, -2, -1, 0, 1, 2, 255, 256, 1 << 16, math.MaxInt32, 1 << 31, 1 << 32, 1<<32 + 1, math.MaxInt - 1, math.MaxInt}
}

func farSites() []api.Site {
	var l []api.Site
	for _, f := range []int{math.MinInt, -1, 0, 1, 1 << 32, math.MaxInt} {
		for _, at := range []int{math.MinInt, -1, 0, 1, 1 << 32, math.MaxInt} {
			l = append(l, api.Site{Func: f, At: at})
		}
	}
	return l
}

func at(f, place int) api.Site { return api.Site{Func: f, At: place} }

// numbers are told by a rule, so that each run of the tests has the same ones.
type numbers uint64

// below is a number from 0 on, below n.
func (n *numbers) below(most int) int {
	*n = *n*6364136223846793005 + 1442695040888963407
	return int(uint64(*n)>>33) % most
}

// pair is a profile, and what it is to be.
type pair struct {
	*testing.T
	p *profile.Profile
	m *meant
}

func newPair(t *testing.T) pair {
	t.Helper()
	p := profile.New()
	if p == nil {
		t.Fatal("New")
	}
	return pair{t, p, &meant{}}
}

func (x pair) check() {
	x.Helper()
	check(x.T, x.p, x.m)
}

func (x pair) clone() pair { return pair{x.T, x.p.Clone(), x.m.clone()} }

func (x pair) enter(f int) {
	x.Helper()
	x.m.count(event{"enter", at(f, 0), 0, 1})
	if n, want := x.p.Enter(f), x.m.entered(f); n != want {
		x.Fatalf("Enter(%d) = %d, not %d", f, n, want)
	}
}

func (x pair) back(s api.Site) {
	x.Helper()
	x.m.count(event{"back", s, 0, 1})
	if n, want := x.p.Back(s), x.m.jumped(s); n != want {
		x.Fatalf("Back(%v) = %d, not %d", s, n, want)
	}
}

func (x pair) call(s api.Site, classes ...int) {
	x.Helper()
	for _, class := range classes {
		x.m.count(event{"call", s, class, 1})
		if k, want := x.p.Call(s, class), x.m.kind(s); k != want {
			x.Fatalf("Call(%v, %d) = %d, not %d", s, class, k, want)
		}
	}
}

func (x pair) forget(f int) {
	x.p.Forget(f)
	x.m.forget(f)
}

func (x pair) add(y pair) {
	x.Helper()
	if e := x.p.Add(y.p); e != api.OK {
		x.Fatal("Add", e)
	}
	x.m.add(y.m)
}

// doubled adds a profile to itself, so that great counts are come to.
func (x pair) doubled(times int) {
	x.Helper()
	for range times {
		x.add(x)
	}
}

// sample has methods, jumps, and sites of each kind.
func sample(t *testing.T) pair {
	t.Helper()
	x := newPair(t)
	for _, f := range []int{3, 3, 1, 0, -4, 1, 3, math.MaxInt} {
		x.enter(f)
	}
	for _, s := range []api.Site{at(3, 4), at(3, 4), at(4, 3), at(0, 0), at(-4, math.MinInt)} {
		x.back(s)
	}
	x.call(at(3, 4), 8)
	x.call(at(3, 5), 9, 8, 8)
	x.call(at(4, 3), 8, 9, 10, 11, 10)
	x.call(at(1, 0), 8, 9, 10, 11, 12, 9, 12)
	return x
}
