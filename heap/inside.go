package heap

import (
	"slices"

	"tabard/api"
)

// noClass stands for the class of an array; an object's is never below 0.
const noClass = -1

// inside is what a heap has. Each object and each array has a class and a row in each store; the reference to it is one more than the number of these.
type inside struct {
	limit   int
	classes []int
	types   store[api.Type] // of an object its fields' types, of an array its elements' one
	values  store[api.Val]
}

// place is a field or an element: its type, and where its value stands.
type place struct {
	kind  api.Type
	value *api.Val
}

func (in *inside) used() int { return len(in.classes) + len(in.values.cells) }

// fits tells whether there is room for one more object or array of n places.
func (in *inside) fits(n int) bool { return n < in.limit-in.used() }

// addObject and addArray ask nothing: what may not be was refused ahead of them.
func (in *inside) addObject(class int, fields []api.Type) int64 {
	in.classes = append(in.classes, class)
	copy(in.types.add(len(fields)), fields)
	row := in.values.add(len(fields))
	for i, t := range fields {
		row[i], _ = Zero(t)
	}
	return in.many()
}

func (in *inside) addArray(elem api.Type, n int) int64 {
	in.classes = append(in.classes, noClass)
	in.types.add(1)[0] = elem
	zero, _ := Zero(elem)
	row := in.values.add(n)
	for i := range row {
		row[i] = zero
	}
	return in.many()
}

// many is also the reference to the newest.
func (in *inside) many() int64 { return int64(len(in.classes)) }

// class is that of an object, or noClass of an array; false, if the reference names neither.
func (in *inside) class(ref int64) (int, bool) {
	if ref < 1 || ref > in.many() {
		return 0, false
	}
	return in.classes[ref-1], true
}

func (in *inside) isObject(ref int64) bool {
	class, is := in.class(ref)
	return is && class != noClass
}

func (in *inside) isArray(ref int64) bool {
	class, is := in.class(ref)
	return is && class == noClass
}

func (in *inside) field(ref int64, i int) (place, api.Errno) {
	if !in.isObject(ref) {
		return place{}, api.ErrRef
	}
	row := in.values.row(int(ref - 1))
	if i < 0 || i >= len(row) {
		return place{}, api.ErrIndex
	}
	return place{in.types.row(int(ref - 1))[i], &row[i]}, api.OK
}

func (in *inside) element(ref, i int64) (place, api.Errno) {
	if !in.isArray(ref) {
		return place{}, api.ErrRef
	}
	row := in.values.row(int(ref - 1))
	if i < 0 || i >= int64(len(row)) {
		return place{}, api.ErrIndex
	}
	return place{in.elem(ref), &row[i]}, api.OK
}

// elem is the type of the elements of what is known to be an array.
func (in *inside) elem(ref int64) api.Type { return in.types.row(int(ref - 1))[0] }

func (p place) put(v api.Val) api.Errno {
	if !Fits(p.kind, v) {
		return api.ErrKind
	}
	*p.value = v
	return api.OK
}

func (in *inside) clone() *inside {
	return &inside{in.limit, slices.Clone(in.classes), in.types.clone(), in.values.clone()}
}

func (in *inside) same(other *inside) bool {
	return in.limit == other.limit && slices.Equal(in.classes, other.classes) && in.types.same(&other.types) && in.values.same(&other.values)
}
