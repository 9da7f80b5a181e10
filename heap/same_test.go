package heap_test

import (
	"testing"

	"tabard/api"
	"tabard/heap"
)

// steps are ways in which a heap goes on from the sample, each another one; the first does nothing.
func steps() []func(p pair) {
	l := []func(p pair){
		func(p pair) {},
		func(p pair) { p.object(0) }, func(p pair) { p.object(1) }, func(p pair) { p.object(0, whole) }, func(p pair) { p.object(0, long) }, func(p pair) { p.object(0, whole, long) }, func(p pair) { p.object(0, long, whole) },
		func(p pair) { p.object(0, named) }, func(p pair) { p.object(0, api.Type{Kind: api.TyRef, Name: "a/C"}) }, func(p pair) { p.object(0, api.Type{Kind: api.TyInt, Name: "I"}) }, func(p pair) { p.object(1, whole) },
		func(p pair) { p.array(whole, 0) }, func(p pair) { p.array(long, 0) }, func(p pair) { p.array(named, 0) }, func(p pair) { p.array(api.Type{Kind: api.TyRef}, 0) },
		func(p pair) { p.array(whole, 1) }, func(p pair) { p.array(whole, 2) }, func(p pair) { p.array(named, 1) },
		// The same cells in all, of other things.
		func(p pair) { p.object(0); p.object(0, whole) }, func(p pair) { p.object(0, whole); p.object(0) }, func(p pair) { p.array(whole, 0); p.array(whole, 1) }, func(p pair) { p.array(whole, 1); p.array(whole, 0) }, func(p pair) { p.object(0); p.object(0) },
		func(p pair) { p.array(whole, 0); p.object(0, whole) }, func(p pair) { p.object(0, whole); p.array(whole, 0) },
		func(p pair) { p.object(0, whole); p.set(8, 0, num(1)) }, func(p pair) { p.array(whole, 1); p.store(8, 0, num(1)) }, func(p pair) { p.array(whole, 2); p.store(8, 1, num(1)) }, func(p pair) { p.array(whole, 2); p.store(8, 0, num(1)) },
		func(p pair) { p.set(2, 0, num(0)) }, func(p pair) { p.set(2, 2, to(0)) }, func(p pair) { p.set(2, 2, to(1)) }, func(p pair) { p.set(6, 0, big(1)) },
		func(p pair) { p.store(3, 0, num(1)) }, func(p pair) { p.store(3, 2, num(1)) }, func(p pair) { p.store(5, 0, big(0)) }, func(p pair) { p.store(5, 1, big(-1)) }, func(p pair) { p.store(7, 3, to(1)) },
		// What comes to where another way comes.
		func(p pair) { p.set(2, 0, num(3)); p.set(2, 0, num(0)) }, func(p pair) { p.store(3, 0, num(7)); p.store(3, 0, num(0)) }, func(p pair) { p.set(2, 0, big(3)); p.object(-1); p.array(whole, 99) },
	}
	return l
}

// TestSame holds all ways against each other.
func TestSame(t *testing.T) {
	var all []pair
	for _, step := range steps() {
		p := sample(t)
		step(p)
		p.check()
		all = append(all, p)
	}
	twice := 0
	for i, p := range all {
		for k, q := range all {
			if heap.Same(p.h, q.h) != p.m.same(q.m) {
				t.Error(i, k, heap.Same(p.h, q.h))
			}
			if i != k && p.m.same(q.m) {
				twice++
			}
		}
	}
	if twice == 0 {
		t.Error("no two ways come to the same")
	}
}

func TestSameOfLimits(t *testing.T) {
	for a := range 4 {
		for b := range 4 {
			p, q := newPair(t, a), newPair(t, b)
			if heap.Same(p.h, q.h) != (a == b) {
				t.Error(a, b)
			}
			p.object(0)
			q.object(0)
			if heap.Same(p.h, q.h) != (a == b) {
				t.Error(a, b)
			}
		}
	}
	if heap.Same(fresh(t, 1), nil) || heap.Same(nil, fresh(t, 1)) {
		t.Error("nil")
	}
}

// TestSameOfSorts holds things against each other that have the same types and the same cells.
func TestSameOfSorts(t *testing.T) {
	h, g := fresh(t, 9), fresh(t, 9)
	h.Object(0, whole)
	g.Array(whole, 1)
	if heap.Same(h, g) || heap.Same(g, h) {
		t.Error("an object and an array")
	}
}

// TestClone goes on from a clone, and from what was cloned, each on a way of its own.
func TestClone(t *testing.T) {
	for i, one := range steps() {
		for k, other := range steps() {
			p := sample(t)
			c := p.clone()
			if c.h == p.h || !heap.Same(p.h, c.h) || !heap.Same(c.h, p.h) {
				t.Fatal("a clone is another one")
			}
			one(p)
			other(c)
			p.check()
			c.check()
			if heap.Same(p.h, c.h) != p.m.same(c.m) {
				t.Fatal(i, k)
			}
		}
	}
}

// TestClonesOfClones grows heaps from each other, so that they would write to one another's room.
func TestClonesOfClones(t *testing.T) {
	all := []pair{newPair(t, 1000)}
	for i := range 60 {
		p := all[i%len(all)]
		c := p.clone()
		p.object(i, named, whole)
		c.array(long, int64(i%5))
		c.store(c.h.Many(), 0, big(int64(i)))
		p.set(p.h.Many(), 1, num(int64(i)))
		all = append(all, c)
		if i%10 == 0 {
			for _, q := range all {
				q.check()
			}
		}
	}
	for _, q := range all {
		q.check()
	}
}

func TestCloneOfEmpty(t *testing.T) {
	p := newPair(t, 3)
	c := p.clone()
	c.check()
	c.object(2, whole)
	p.check()
	p.array(long, 1)
	p.check()
	c.check()
}

// TestTypesAreCopied writes to the types that were handed in, also behind their end.
func TestTypesAreCopied(t *testing.T) {
	p := newPair(t, 90)
	room := make([]api.Type, 16)
	for i := range room {
		room[i] = whole
	}
	for n := range 9 {
		fields := room[:n]
		p.object(1, fields...)
		c := p.clone()
		kept := append([]api.Type(nil), room...)
		for i := range room {
			room[i] = api.Type{Kind: i, Name: "changed"}
		}
		p.check()
		c.check()
		for i := range n {
			p.set(p.h.Many(), i, num(7))
			p.set(p.h.Many(), i, big(7))
		}
		copy(room, kept)
		p.check()
		c.check()
	}
}
