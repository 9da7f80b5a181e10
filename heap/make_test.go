package heap_test

import (
	"math"
	"testing"

	"tabard/api"
	"tabard/heap"
)

func TestNew(t *testing.T) {
	for _, limit := range []int{0, 1, 2, 17, 1 << 16, 1<<20 - 1, 1 << 20} {
		newPair(t, limit).check()
	}
	for _, limit := range []int{-1, -2, math.MinInt32, math.MinInt, 1<<20 + 1, 1 << 32, math.MaxInt} {
		if h, e := heap.New(limit); h != nil || e != api.ErrArg {
			t.Errorf("New(%d) = %v, %d", limit, h, e)
		}
	}
}

func TestNewHeapsAreApart(t *testing.T) {
	p, q := newPair(t, 9), newPair(t, 9)
	p.object(1, whole)
	p.check()
	q.check()
}

// TestExample is the chapter's.
func TestExample(t *testing.T) {
	p := newPair(t, 5)
	if ref, e := p.h.Object(0, whole, long); ref != 1 || e != api.OK || p.h.Used() != 3 {
		t.Fatal("Object", ref, e, p.h.Used())
	}
	if ref, e := p.h.Array(whole, 2); ref != 0 || e != api.ErrFull || p.h.Used() != 3 {
		t.Fatal("Array", ref, e, p.h.Used())
	}
	if ref, e := p.h.Array(whole, 1); ref != 2 || e != api.OK || p.h.Used() != 5 {
		t.Fatal("Array", ref, e, p.h.Used())
	}
}

func TestObjects(t *testing.T) {
	p := newPair(t, 100)
	for _, class := range []int{0, 1, 7, 8, 64, 1 << 20, 1 << 32, math.MaxInt} {
		p.object(class, placeTypes()...)
		p.object(class)
		p.check()
	}
}

func TestArrays(t *testing.T) {
	p := newPair(t, 100)
	for i, x := range placeTypes() {
		p.array(x, int64(i))
		p.array(x, 0)
		p.check()
	}
}

// TestWrongObjects makes what may not be, where all else is right.
func TestWrongObjects(t *testing.T) {
	p := sample(t)
	for _, class := range []int{-1, -2, math.MinInt32, math.MinInt, -1 << 32} {
		p.object(class)
		p.object(class, whole)
	}
	for _, x := range otherTypes() {
		p.object(3, x)
		p.object(3, x, whole)
		p.object(3, whole, x)
		p.object(3, whole, x, named)
		for n := range int64(3) {
			p.array(x, n)
		}
	}
	for _, n := range []int64{-1, -2, math.MinInt32, math.MinInt64, -1 << 32} {
		p.array(whole, n)
	}
	p.check()
}

// TestErrorsInOrder makes what may not be in several ways, of a full heap and of one with room.
func TestErrorsInOrder(t *testing.T) {
	for _, limit := range []int{0, 20} {
		p := newPair(t, limit)
		for _, x := range []struct {
			class  int
			fields []api.Type
		}{{-1, []api.Type{whole}}, {0, []api.Type{{}}}, {-1, []api.Type{{}}}, {0, append(make([]api.Type, 21), whole)}, {-1, append(placeTypes(), make([]api.Type, 20)...)}} {
			if ref, e := p.h.Object(x.class, x.fields...); ref != 0 || e != api.ErrArg {
				t.Errorf("Object(%d, %v) = %d, %d of %d cells", x.class, x.fields, ref, e, limit)
			}
		}
		for _, n := range []int64{-1, 0, 21, 1 << 16, 1<<16 + 1, math.MaxInt64, math.MinInt64} {
			if ref, e := p.h.Array(api.Type{Kind: api.TyNull}, n); ref != 0 || e != api.ErrArg {
				t.Errorf("Array of no place's type, %d: %d, %d of %d cells", n, ref, e, limit)
			}
		}
		for _, n := range []int64{-1, math.MinInt64} {
			if ref, e := p.h.Array(whole, n); ref != 0 || e != api.ErrSize {
				t.Errorf("Array(int, %d) = %d, %d of %d cells", n, ref, e, limit)
			}
		}
		p.check()
	}
}

// TestFull fills heaps up to their limits, with room for the last thing, and one cell short of it.
func TestFull(t *testing.T) {
	for limit := range 12 {
		for ahead := range limit + 1 {
			p := newPair(t, limit)
			if ahead > 0 {
				p.array(whole, int64(ahead-1))
			}
			left := limit - ahead
			for n := left + 3; n >= 0; n-- {
				// The greatest that has room is made, and nothing that is greater.
				c := p.clone()
				c.object(2, types(n)...)
				c.check()
				d := p.clone()
				d.array(named, int64(n))
				d.check()
				if made := d.h.Many() - p.h.Many(); (made == 1) != (n < left) {
					t.Fatal(limit, ahead, n, made)
				}
			}
		}
	}
}

// types are so many types of places.
func types(n int) []api.Type {
	all := placeTypes()
	var l []api.Type
	for i := range n {
		l = append(l, all[i%len(all)])
	}
	return l
}

// TestRefusedTakesNothing goes on behind what was refused.
func TestRefusedTakesNothing(t *testing.T) {
	p := newPair(t, 8)
	p.object(1, whole, whole)
	p.object(1, types(5)...)
	p.array(long, 5)
	p.array(long, -1)
	p.array(api.Type{}, 0)
	p.object(-1)
	p.array(long, math.MaxInt64)
	p.object(2, named)
	p.check()
	p.array(long, 3)
	p.array(long, 2)
	p.check()
	if p.h.Used() != 8 || p.h.Many() != 3 {
		t.Error(p.h.Used(), p.h.Many())
	}
	p.object(0)
	p.array(whole, 0)
	p.check()
}

func TestGreatArrays(t *testing.T) {
	h := fresh(t, api.MaxCells)
	for _, n := range []int64{1<<16 + 1, 1 << 17, 1<<20 - 1, 1 << 20, 1 << 31, 1 << 32, 1<<32 + 1, 1 << 40, math.MaxInt64 - 1, math.MaxInt64} {
		if ref, e := h.Array(whole, n); ref != 0 || e != api.ErrFull || h.Used() != 0 || h.Many() != 0 {
			t.Errorf("Array(int, %d) = %d, %d", n, ref, e)
		}
	}
	for ref := int64(1); ref <= 15; ref++ {
		if got, e := h.Array(long, 1<<16); got != ref || e != api.OK || h.Used() != int(ref)*(1<<16+1) {
			t.Fatal(got, e, h.Used())
		}
		if n, e := h.Length(ref); n != 1<<16 || e != api.OK {
			t.Fatal(n, e)
		}
	}
	left := int64(api.MaxCells - h.Used())
	if got, e := h.Array(whole, left); got != 0 || e != api.ErrFull {
		t.Error(got, e)
	}
	if got, e := h.Array(whole, left-1); got != 16 || e != api.OK || h.Used() != api.MaxCells {
		t.Error(got, e)
	}
	if got, e := h.Object(0); got != 0 || e != api.ErrFull || h.Many() != 16 {
		t.Error(got, e)
	}
}

// TestGreatObjects makes objects of more fields than arrays may have elements.
func TestGreatObjects(t *testing.T) {
	h := fresh(t, api.MaxCells)
	fields := types(api.MaxCells)
	if ref, e := h.Object(5, fields...); ref != 0 || e != api.ErrFull || h.Used() != 0 {
		t.Error(ref, e)
	}
	if ref, e := h.Object(5, fields[1:]...); ref != 1 || e != api.OK || h.Used() != api.MaxCells {
		t.Error(ref, e)
	}
	for i, x := range fields[1:] {
		want, _ := heap.Zero(x)
		if v, e := h.Get(1, i); v != want || e != api.OK {
			t.Fatal(i, v, e)
		}
	}
	if v, e := h.Get(1, api.MaxCells-1); v != (api.Val{}) || e != api.ErrIndex {
		t.Error(v, e)
	}
}
