package heap_test

import (
	"math"
	"slices"
	"testing"

	"tabard/api"
	"tabard/heap"
)

var (
	whole = api.Type{Kind: api.TyInt}
	long  = api.Type{Kind: api.TyLong}
	named = api.Type{Kind: api.TyRef, Name: "a/B"}
)

func num(n int64) api.Val { return api.Val{Kind: api.VInt, N: n} }

func big(n int64) api.Val { return api.Val{Kind: api.VLong, N: n} }

func to(n int64) api.Val { return api.Val{Kind: api.VRef, N: n} }

// placeTypes may stand in a place; whatever the Name is, it is kept.
func placeTypes() []api.Type {
	return []api.Type{whole, long, named, {Kind: api.TyRef}, {Kind: api.TyRef, Name: "[[I"}, {Kind: api.TyInt, Name: "I"}, {Kind: api.TyLong, Name: "a/B"}, {Kind: api.TyRef, Name: "\x00\xff"}}
}

// otherTypes may not.
func otherTypes() []api.Type {
	l := []api.Type{{}, {Kind: api.TyNull}, {Name: "a/B"}, {Kind: api.TyNull, Name: "a/B"}}
	for _, kind := range []int{-1, -2, -4, 5, 6, 8, 1 << 8, 1<<8 + 1, 1<<32 + 1, 1<<32 + 2, 1<<32 + 4, math.MinInt, math.MinInt + 1, math.MaxInt} {
		l = append(l, api.Type{Kind: kind})
	}
	return l
}

// values are such as fit somewhere, and such as fit nowhere.
func values() []api.Val {
	var l []api.Val
	for _, kind := range []int{math.MinInt, -1, api.VTop, api.VInt, api.VLong, api.VRef, 4, 1<<32 + 1, 1<<32 + 3, math.MaxInt} {
		for _, n := range []int64{0, 1, -1, 7, math.MaxInt32, math.MaxInt32 + 1, math.MinInt32, math.MinInt32 - 1, 1 << 32, math.MaxInt64, math.MinInt64} {
			l = append(l, api.Val{Kind: kind, N: n})
		}
	}
	return l
}

// indices are far beside all places; some would be places if they were cut.
func indices() []int64 {
	return []int64{math.MinInt64, math.MinInt64 + 1, -1 << 32, math.MinInt32, -2, 1 << 31, 1 << 32, 1<<32 + 1, 1<<33 + 2, math.MaxInt64 - 1, math.MaxInt64}
}

func fresh(t *testing.T, limit int) *heap.Heap {
	t.Helper()
	h, e := heap.New(limit)
	if h == nil || e != api.OK {
		t.Fatal("New", limit, h, e)
	}
	return h
}

// pair is a heap, and what it is to be.
type pair struct {
	*testing.T
	h *heap.Heap
	m *meant
}

func newPair(t *testing.T, limit int) pair {
	t.Helper()
	return pair{t, fresh(t, limit), &meant{limit: limit}}
}

func (p pair) check() {
	p.Helper()
	check(p.T, p.h, p.m)
}

func (p pair) clone() pair { return pair{p.T, p.h.Clone(), p.m.clone()} }

func (p pair) object(class int, fields ...api.Type) {
	p.Helper()
	given := slices.Clone(fields)
	ref, e := p.h.Object(class, given...)
	if want, f := p.m.object(class, fields); ref != want || e != f {
		p.Fatalf("Object(%d, %v) = %d, %d, not %d, %d", class, fields, ref, e, want, f)
	}
	if !slices.Equal(given, fields) {
		p.Fatalf("Object(%d, %v) wrote to the types", class, fields)
	}
}

func (p pair) array(elem api.Type, n int64) {
	p.Helper()
	ref, e := p.h.Array(elem, n)
	if want, f := p.m.array(elem, n); ref != want || e != f {
		p.Fatalf("Array(%v, %d) = %d, %d, not %d, %d", elem, n, ref, e, want, f)
	}
}

func (p pair) set(ref int64, i int, v api.Val) {
	p.Helper()
	if e, f := p.h.Set(ref, i, v), p.m.write(ref, int64(i), v, false); e != f {
		p.Fatalf("Set(%d, %d, %v) = %d, not %d", ref, i, v, e, f)
	}
}

func (p pair) store(ref, i int64, v api.Val) {
	p.Helper()
	if e, f := p.h.Store(ref, i, v), p.m.write(ref, i, v, true); e != f {
		p.Fatalf("Store(%d, %d, %v) = %d, not %d", ref, i, v, e, f)
	}
}

// sample has an object without a field, one with each type, and arrays, an empty one among them; some places are put to.
func sample(t *testing.T) pair {
	t.Helper()
	p := newPair(t, 40)
	p.object(9)
	p.object(0, placeTypes()...)
	p.array(whole, 3)
	p.array(named, 0)
	p.array(long, 2)
	p.object(math.MaxInt, long)
	p.array(named, 4)
	p.set(2, 0, num(math.MinInt32))
	p.set(2, 2, to(99))
	p.set(6, 0, big(math.MinInt64))
	p.store(3, 2, num(math.MaxInt32))
	p.store(5, 0, big(-1))
	p.store(7, 3, to(2))
	return p
}
