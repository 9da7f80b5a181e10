package profile_test

import (
	"testing"

	"tabard/api"
	"tabard/profile"
)

// TestAddClasses adds each two of sites with these classes.
func TestAddClasses(t *testing.T) {
	s := at(1, 2)
	all := [][]int{
		{}, {8}, {8, 8, 8}, {9}, {8, 9}, {9, 8, 9}, {10, 11}, {8, 9, 10}, {9, 10, 11, 11}, {12, 13, 13, 14, 14, 14}, {8, 9, 10, 11}, {11, 10, 9, 8, 8}, {12, 13, 14, 15, 12}, {8, 12, 12, 9, 13},
		{8, 9, 10, 11, 12}, {12, 11, 10, 9, 8, 9, 9}, {16, 15, 14, 13, 12, 14, 14, 16}, {1, 2, 3, 4, 5, 6, 7, 8},
	}
	for _, one := range all {
		for _, other := range all {
			x, y := newPair(t), newPair(t)
			x.call(s, one...)
			y.call(s, other...)
			kept := y.clone()
			x.add(y)
			x.check()
			kept.check()
			if y.check(); !profile.Same(y.p, kept.p) {
				t.Error("written to", one, other)
			}
			x.call(s, 8, 20)
			x.check()
		}
	}
}

// TestAddTakesTheFirst has more classes than there is room for: those that were seen most come ahead, the others are not counted anywhere.
func TestAddTakesTheFirst(t *testing.T) {
	x, y, s := newPair(t), newPair(t), at(0, 0)
	x.call(s, 1, 2)
	y.call(s, 6, 5, 5, 4, 4, 2)
	x.add(y)
	x.check()
	if l := x.p.Classes(s); len(l) != 4 || l[0] != (api.Seen{Class: 2, N: 2}) || l[1] != (api.Seen{Class: 4, N: 2}) || l[2] != (api.Seen{Class: 5, N: 2}) || l[3] != (api.Seen{Class: 1, N: 1}) || x.p.Kind(s) != api.CallMega {
		t.Error(l, x.p.Kind(s))
	}
	// Four of them have room: it is not mega.
	x, y = newPair(t), newPair(t)
	x.call(s, 1, 2)
	y.call(s, 3, 4, 1)
	x.add(y)
	x.check()
	if k := x.p.Kind(s); k != api.CallPoly {
		t.Error(k)
	}
}

// TestAddSelf adds profiles to themselves, also by a copy of the struct.
func TestAddSelf(t *testing.T) {
	x := sample(t)
	x.doubled(1)
	x.check()
	c := *x.p
	x.add(pair{t, &c, x.m})
	x.check()
	if check(t, &c, x.m); !profile.Same(x.p, &c) {
		t.Error("a copy of the struct is another profile")
	}
	x = newPair(t)
	x.doubled(3)
	x.check()
}

// TestAddIsApart goes on with both, after one was added to the other.
func TestAddIsApart(t *testing.T) {
	x, y := sample(t), sample(t)
	y.call(at(77, 0), 1, 2)
	y.enter(77)
	x.add(y)
	for i, one := range []pair{x, y} {
		one.enter(3 + i)
		one.back(at(3, 4+i))
		one.call(at(77, 0), 3, 1)
		one.call(at(1, 0), 9, 30)
		one.forget(4 - i)
		x.check()
		y.check()
	}
}

// TestAddNotMade adds what no call made, which changes nothing.
func TestAddNotMade(t *testing.T) {
	for _, q := range []*profile.Profile{nil, {}, new(profile.Profile)} {
		x := sample(t)
		c := x.clone()
		if e := x.p.Add(q); e != api.ErrMade {
			t.Error(e)
		}
		x.check()
		if e := q.Add(x.p); e != api.ErrMade || !profile.Same(x.p, c.p) {
			t.Error(e)
		}
		if e := q.Add(q); e != api.ErrMade {
			t.Error(e)
		}
		if e := q.Add(nil); e != api.ErrMade || q.Entered(3) != 0 {
			t.Error(e)
		}
	}
}

// TestTwoParts is P14.6: what is counted in two parts, and added, is what is counted in one.
func TestTwoParts(t *testing.T) {
	n := numbers(4)
	for range 200 {
		whole, parts := newPair(t), [2]pair{newPair(t), newPair(t)}
		for range n.below(80) {
			part := parts[n.below(2)]
			f, s, class := n.below(4), at(n.below(4), n.below(3)), n.below(4)
			for _, x := range []pair{whole, part} {
				switch s.At {
				case 0:
					x.enter(f)
				case 1:
					x.back(s)
				default:
					x.call(s, class)
				}
			}
		}
		parts[0].add(parts[1])
		parts[0].check()
		if check(t, parts[0].p, whole.m); !profile.Same(parts[0].p, whole.p) {
			t.Fatal("not the same")
		}
	}
}
