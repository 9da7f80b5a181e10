package heap_test

import (
	"slices"
	"testing"

	"tabard/api"
	"tabard/heap"
)

// What the document says, kept the plainest way: each object and array apart, and what they take added up anew each time.

// thing is an object or an array; a place's value stands beside its type.
type thing struct {
	isArray bool
	class   int
	elem    api.Type
	types   []api.Type
	values  []api.Val
}

type meant struct {
	limit  int
	things []thing
}

// isKind tells whether a type is a place's, and of which kind its values are.
func isKind(t api.Type) (int, bool) {
	kind, is := map[int]int{api.TyInt: api.VInt, api.TyLong: api.VLong, api.TyRef: api.VRef}[t.Kind]
	return kind, is
}

func meantFits(t api.Type, v api.Val) bool {
	kind, is := isKind(t)
	if !is || v.Kind != kind {
		return false
	}
	return kind == api.VLong || kind == api.VInt && v.N == int64(int32(v.N)) || kind == api.VRef && v.N >= 0
}

func (m *meant) used() int {
	sum := 0
	for _, x := range m.things {
		sum += 1 + len(x.values)
	}
	return sum
}

// put makes a thing whose places have these types, if it has room.
func (m *meant) put(x thing, types []api.Type) (int64, api.Errno) {
	if m.used()+1+len(types) > m.limit {
		return 0, api.ErrFull
	}
	for _, t := range types {
		kind, _ := isKind(t)
		x.types = append(x.types, t)
		x.values = append(x.values, api.Val{Kind: kind})
	}
	m.things = append(m.things, x)
	return int64(len(m.things)), api.OK
}

func (m *meant) object(class int, fields []api.Type) (int64, api.Errno) {
	bad := class < 0
	for _, t := range fields {
		_, is := isKind(t)
		bad = bad || !is
	}
	if bad {
		return 0, api.ErrArg
	}
	return m.put(thing{class: class}, fields)
}

func (m *meant) array(elem api.Type, n int64) (int64, api.Errno) {
	if _, is := isKind(elem); !is {
		return 0, api.ErrArg
	}
	if n < 0 {
		return 0, api.ErrSize
	}
	if n > 65536 {
		return 0, api.ErrFull
	}
	return m.put(thing{isArray: true, elem: elem}, slices.Repeat([]api.Type{elem}, int(n)))
}

// find is the thing of a sort that a reference names.
func (m *meant) find(ref int64, isArray bool) (*thing, bool) {
	for i := range m.things {
		if int64(i)+1 == ref && m.things[i].isArray == isArray {
			return &m.things[i], true
		}
	}
	return nil, false
}

func (m *meant) read(ref, i int64, isArray bool) (api.Val, api.Errno) {
	x, is := m.find(ref, isArray)
	if !is {
		return api.Val{}, api.ErrRef
	}
	if i < 0 || i >= int64(len(x.values)) {
		return api.Val{}, api.ErrIndex
	}
	return x.values[i], api.OK
}

func (m *meant) write(ref, i int64, v api.Val, isArray bool) api.Errno {
	if _, e := m.read(ref, i, isArray); e != api.OK {
		return e
	}
	x, _ := m.find(ref, isArray)
	if !meantFits(x.types[i], v) {
		return api.ErrKind
	}
	x.values[i] = v
	return api.OK
}

func (m *meant) clone() *meant {
	c := &meant{limit: m.limit}
	for _, x := range m.things {
		x.types, x.values = slices.Clone(x.types), slices.Clone(x.values)
		c.things = append(c.things, x)
	}
	return c
}

func (m *meant) same(other *meant) bool {
	return m.limit == other.limit && slices.EqualFunc(m.things, other.things, func(a, b thing) bool {
		return a.isArray == b.isArray && a.class == b.class && a.elem == b.elem && slices.Equal(a.types, b.types) && slices.Equal(a.values, b.values)
	})
}

// check asks all of a heap, also about what is beside the things and the places that there are.
func check(t *testing.T, h *heap.Heap, m *meant) {
	t.Helper()
	if h.Used() != m.used() || h.Limit() != m.limit || h.Many() != int64(len(m.things)) || h.Used() > h.Limit() {
		t.Fatalf("used %d of %d, %d things, not %d of %d, %d", h.Used(), h.Limit(), h.Many(), m.used(), m.limit, len(m.things))
	}
	for ref := int64(-1); ref <= int64(len(m.things))+2; ref++ {
		checkThing(t, h, m, ref)
	}
}

func checkThing(t *testing.T, h *heap.Heap, m *meant, ref int64) {
	t.Helper()
	places := int64(0)
	class, is := h.Class(ref)
	x, want := m.find(ref, false)
	if is != want || want && class != x.class || !want && class != 0 {
		t.Fatalf("Class(%d) = %d, %t", ref, class, is)
	}
	if want {
		places = int64(len(x.values))
	}
	elem, is := h.Elem(ref)
	n, e := h.Length(ref)
	x, want = m.find(ref, true)
	if is != want || want && elem != x.elem || !want && elem != (api.Type{}) {
		t.Fatalf("Elem(%d) = %v, %t", ref, elem, is)
	}
	if want {
		places = int64(len(x.values))
	}
	if want && (n != places || e != api.OK) || !want && (n != 0 || e != api.ErrRef) {
		t.Fatalf("Length(%d) = %d, %d", ref, n, e)
	}
	for i := int64(-1); i <= places+1; i++ {
		v, e := h.Get(ref, int(i))
		if w, f := m.read(ref, i, false); v != w || e != f {
			t.Fatalf("Get(%d, %d) = %v, %d, not %v, %d", ref, i, v, e, w, f)
		}
		v, e = h.Load(ref, i)
		if w, f := m.read(ref, i, true); v != w || e != f {
			t.Fatalf("Load(%d, %d) = %v, %d, not %v, %d", ref, i, v, e, w, f)
		}
	}
}
