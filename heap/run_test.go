package heap_test

import (
	"testing"

	"tabard/api"
	"tabard/heap"
)

// numbers are told by a rule, so that each run of the tests has the same ones.
type numbers uint64

// below is a number from 0 on, below n.
func (n *numbers) below(most int) int {
	*n = *n*6364136223846793005 + 1442695040888963407
	return int(uint64(*n)>>33) % most
}

func (n *numbers) kind() api.Type {
	if n.below(12) == 0 {
		return otherTypes()[n.below(len(otherTypes()))]
	}
	return placeTypes()[n.below(len(placeTypes()))]
}

func (n *numbers) value() api.Val {
	if n.below(3) == 0 {
		return values()[n.below(len(values()))]
	}
	return []api.Val{num(int64(n.below(1000) - 500)), big(int64(n.below(1000)-500) << 31), to(int64(n.below(20)))}[n.below(3)]
}

// step does one call, wrong ones among them.
func (n *numbers) step(p pair) {
	p.Helper()
	ref := int64(n.below(int(p.h.Many())+3)) - 1
	switch n.below(8) {
	case 0:
		var fields []api.Type
		for range n.below(5) {
			fields = append(fields, n.kind())
		}
		p.object(n.below(9)-1, fields...)
	case 1:
		p.array(n.kind(), int64(n.below(9)-1))
	case 2, 3, 4:
		p.set(ref, n.below(6)-1, n.value())
	default:
		p.store(ref, int64(n.below(10)-1), n.value())
	}
}

// TestRuns holds long runs of calls against what the document says; now and then a clone goes on.
func TestRuns(t *testing.T) {
	for seed := range 60 {
		n := numbers(seed)
		p := newPair(t, n.below(200))
		kept := p.clone()
		for i := range 300 {
			n.step(p)
			if i%20 == 0 {
				p.check()
				kept.check()
				if heap.Same(p.h, kept.h) != p.m.same(kept.m) {
					t.Fatal(seed, i)
				}
			}
			if n.below(40) == 0 {
				kept = p
				p = p.clone()
			}
		}
		p.check()
		kept.check()
	}
}

// TestReferences tells things one by one, by the order in which they were made.
func TestReferences(t *testing.T) {
	h := fresh(t, 4000)
	n := numbers(3)
	var classes []int
	for i := range 600 {
		ref, e := int64(0), api.OK
		if n.below(2) == 0 {
			ref, e = h.Array(long, int64(n.below(5)))
			classes = append(classes, -1)
		} else {
			ref, e = h.Object(i, whole, named)
			classes = append(classes, i)
		}
		if ref != int64(i)+1 || h.Many() != ref || e != api.OK {
			t.Fatal(i, ref, e)
		}
		h.Array(api.Type{}, 1)
		h.Object(-1)
	}
	for i, want := range classes {
		class, is := h.Class(int64(i) + 1)
		if is != (want >= 0) || is && class != want {
			t.Fatal(i, class, is, want)
		}
		if _, is := h.Elem(int64(i) + 1); is != (want < 0) {
			t.Fatal(i, is, want)
		}
	}
}

// TestManyCalls would not end, if a call went through all that the heap has.
func TestManyCalls(t *testing.T) {
	h := fresh(t, api.MaxCells)
	last := int64(api.MaxCells / 2)
	for ref := int64(1); ref <= last; ref++ {
		if got, e := h.Object(int(ref), long); got != ref || e != api.OK || h.Used() != int(ref)*2 || h.Many() != ref {
			t.Fatal(got, e)
		}
	}
	for ref := last; ref >= 1; ref-- {
		if e := h.Set(ref, 0, big(ref*7)); e != api.OK {
			t.Fatal(ref, e)
		}
	}
	for ref := int64(1); ref <= last; ref++ {
		v, e := h.Get(ref, 0)
		class, is := h.Class(ref)
		if v != big(ref*7) || e != api.OK || class != int(ref) || !is {
			t.Fatal(ref, v, e, class, is)
		}
	}
	if c := h.Clone(); !heap.Same(h, c) || c.Set(last, 0, big(0)) != api.OK || heap.Same(h, c) {
		t.Error("Clone")
	}
	for range last {
		if _, e := h.Array(whole, 0); e != api.ErrFull {
			t.Fatal(e)
		}
	}
}

// TestElementsOfGreatArray puts to each element, and asks for each.
func TestElementsOfGreatArray(t *testing.T) {
	h := fresh(t, api.MaxCells)
	for range 3 {
		h.Array(whole, api.MaxArray)
	}
	for i := range int64(api.MaxArray) {
		if e := h.Store(2, i, num(i-9)); e != api.OK {
			t.Fatal(i, e)
		}
	}
	for i := range int64(api.MaxArray) {
		a, _ := h.Load(1, i)
		b, _ := h.Load(2, i)
		if c, _ := h.Load(3, i); a != num(0) || b != num(i-9) || c != num(0) {
			t.Fatal(i, a, b, c)
		}
	}
}

// TestNewTakesLittle makes many heaps with a great limit: room is for what is made.
func TestNewTakesLittle(t *testing.T) {
	var all []*heap.Heap
	for range 100000 {
		h := fresh(t, api.MaxCells)
		h.Object(0)
		all = append(all, h)
	}
	if !heap.Same(all[0], all[len(all)-1]) {
		t.Error("not the same")
	}
}
