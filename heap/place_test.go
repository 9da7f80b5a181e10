package heap_test

import (
	"math"
	"testing"

	"tabard/api"
	"tabard/heap"
)

// TestPlaces puts each value to each place, and beside all places, and asks all of the heap behind it.
func TestPlaces(t *testing.T) {
	p := sample(t)
	p.check()
	for _, v := range values() {
		for ref := int64(-1); ref <= p.h.Many()+1; ref++ {
			for i := int64(-1); i <= 9; i++ {
				p.set(ref, int(i), v)
				p.store(ref, i, v)
			}
		}
		p.check()
	}
}

// TestPutToOnePlace holds what one putting changes against all places.
func TestPutToOnePlace(t *testing.T) {
	for ref := int64(1); ref <= 7; ref++ {
		for i := range int64(9) {
			for _, v := range []api.Val{num(5), big(6), to(7)} {
				p := sample(t)
				p.set(ref, int(i), v)
				p.store(ref, i, v)
				p.check()
			}
		}
	}
}

// TestFarBesides asks for references and indices that there are not, by far.
func TestFarBesides(t *testing.T) {
	p := sample(t)
	for _, far := range indices() {
		checkThing(t, p.h, p.m, far)
		for i := int64(-1); i < 4; i++ {
			p.set(far, int(i), num(1))
			p.store(far, i, num(1))
		}
		for ref := int64(-1); ref <= 9; ref++ {
			if v, e := p.h.Load(ref, far); v != (api.Val{}) || e != api.ErrIndex && e != api.ErrRef {
				t.Error(ref, far, v, e)
			}
			if v, e := p.h.Get(ref, int(far)); v != (api.Val{}) || e != api.ErrIndex && e != api.ErrRef {
				t.Error(ref, far, v, e)
			}
			p.store(ref, far, num(1))
			p.set(ref, int(far), num(1))
		}
	}
	p.check()
}

// TestSorts asks for an object as for an array, and the other way round.
func TestSorts(t *testing.T) {
	h := fresh(t, 20)
	o, _ := h.Object(4, whole, whole)
	a, _ := h.Array(whole, 2)
	if _, e := h.Load(o, 0); e != api.ErrRef {
		t.Error("Load", e)
	}
	if e := h.Store(o, 0, num(1)); e != api.ErrRef {
		t.Error("Store", e)
	}
	if n, e := h.Length(o); n != 0 || e != api.ErrRef {
		t.Error("Length", n, e)
	}
	if x, is := h.Elem(o); x != (api.Type{}) || is {
		t.Error("Elem", x, is)
	}
	if _, e := h.Get(a, 0); e != api.ErrRef {
		t.Error("Get", e)
	}
	if e := h.Set(a, 0, num(1)); e != api.ErrRef {
		t.Error("Set", e)
	}
	if c, is := h.Class(a); c != 0 || is {
		t.Error("Class", c, is)
	}
	for _, null := range []int64{0, 3, -1} {
		_, e := h.Length(null)
		c, is := h.Class(null)
		x, too := h.Elem(null)
		if e != api.ErrRef || c != 0 || is || x != (api.Type{}) || too {
			t.Error(null, e, c, is, x, too)
		}
	}
}

// TestFaultsInOrder puts what does not fit where there is no place: the place is told first.
func TestFaultsInOrder(t *testing.T) {
	h := fresh(t, 20)
	o, _ := h.Object(4, whole)
	a, _ := h.Array(whole, 1)
	for _, x := range []struct {
		ref, i int64
		set    api.Errno
		store  api.Errno
	}{
		{o, 0, api.ErrKind, api.ErrRef}, {o, 1, api.ErrIndex, api.ErrRef}, {o, -1, api.ErrIndex, api.ErrRef},
		{a, 0, api.ErrRef, api.ErrKind}, {a, 1, api.ErrRef, api.ErrIndex}, {a, -1, api.ErrRef, api.ErrIndex},
		{0, 0, api.ErrRef, api.ErrRef}, {0, 7, api.ErrRef, api.ErrRef}, {3, -1, api.ErrRef, api.ErrRef}, {-1, 0, api.ErrRef, api.ErrRef}, {math.MinInt64, math.MinInt64, api.ErrRef, api.ErrRef},
	} {
		for _, v := range []api.Val{{}, big(0), to(0), num(1 << 31)} {
			if e := h.Set(x.ref, int(x.i), v); e != x.set {
				t.Errorf("Set(%d, %d, %v) = %d", x.ref, x.i, v, e)
			}
			if e := h.Store(x.ref, x.i, v); e != x.store {
				t.Errorf("Store(%d, %d, %v) = %d", x.ref, x.i, v, e)
			}
		}
	}
}

// TestAnyReferenceFits puts references to what there is not: that is not asked.
func TestAnyReferenceFits(t *testing.T) {
	h := fresh(t, 20)
	o, _ := h.Object(4, named)
	a, _ := h.Array(named, 1)
	for _, n := range []int64{1, 2, 3, 1 << 40, math.MaxInt64, 0} {
		if h.Set(o, 0, to(n)) != api.OK || h.Store(a, 0, to(n)) != api.OK {
			t.Error(n)
		}
		v, _ := h.Get(o, 0)
		if w, _ := h.Load(a, 0); v != to(n) || w != to(n) {
			t.Error(n, v, w)
		}
	}
}

// TestUnmade asks heaps that no call made.
func TestUnmade(t *testing.T) {
	for _, h := range []*heap.Heap{nil, new(heap.Heap)} {
		if ref, e := h.Object(0); ref != 0 || e != api.ErrMade {
			t.Error("Object", ref, e)
		}
		if ref, e := h.Object(-1, api.Type{}); ref != 0 || e != api.ErrMade {
			t.Error("Object", ref, e)
		}
		for _, n := range []int64{0, -1, math.MaxInt64} {
			if ref, e := h.Array(api.Type{}, n); ref != 0 || e != api.ErrMade {
				t.Error("Array", ref, e)
			}
			if ref, e := h.Array(whole, n); ref != 0 || e != api.ErrMade {
				t.Error("Array", ref, e)
			}
		}
		for _, ref := range []int64{-1, 0, 1, math.MaxInt64} {
			unmadePlaces(t, h, ref)
		}
		if h.Used() != 0 || h.Limit() != 0 || h.Many() != 0 || h.Clone() != nil {
			t.Error("numbers")
		}
		if heap.Same(h, h) || heap.Same(h, nil) || heap.Same(h, new(heap.Heap)) || heap.Same(h, fresh(t, 0)) || heap.Same(fresh(t, 0), h) {
			t.Error("Same")
		}
	}
}

func unmadePlaces(t *testing.T, h *heap.Heap, ref int64) {
	t.Helper()
	if v, e := h.Get(ref, 0); v != (api.Val{}) || e != api.ErrMade {
		t.Error("Get", v, e)
	}
	if v, e := h.Load(ref, 0); v != (api.Val{}) || e != api.ErrMade {
		t.Error("Load", v, e)
	}
	if n, e := h.Length(ref); n != 0 || e != api.ErrMade {
		t.Error("Length", n, e)
	}
	if e := h.Set(ref, 0, num(0)); e != api.ErrMade {
		t.Error("Set", e)
	}
	if e := h.Store(ref, 0, num(0)); e != api.ErrMade {
		t.Error("Store", e)
	}
	if c, is := h.Class(ref); c != 0 || is {
		t.Error("Class", c, is)
	}
	if x, is := h.Elem(ref); x != (api.Type{}) || is {
		t.Error("Elem", x, is)
	}
}
