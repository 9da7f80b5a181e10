package heap_test

import (
	"testing"

	"tabard/api"
	"tabard/heap"
)

// TestReadme is what README.md shows.
func TestReadme(t *testing.T) {
	h := fresh(t, 9)
	o, e := h.Object(0, whole, long)
	if o != 1 || e != api.OK || h.Used() != 3 || h.Set(o, 1, big(-7)) != api.OK {
		t.Error("Object", o, e)
	}
	a, e := h.Array(whole, 2)
	if a != 2 || e != api.OK || h.Used() != 6 || h.Store(a, 0, num(1<<31)) != api.ErrKind {
		t.Error("Array", a, e)
	}
	if v, e := h.Load(a, 0); v != num(0) || e != api.OK {
		t.Error("Load", v, e)
	}
	if _, e := h.Array(long, 3); e != api.ErrFull {
		t.Error("Array", e)
	}
	c := h.Clone()
	if !heap.Same(c, h) || c.Store(a, 0, num(1)) != api.OK || heap.Same(c, h) {
		t.Error("Clone")
	}
}
